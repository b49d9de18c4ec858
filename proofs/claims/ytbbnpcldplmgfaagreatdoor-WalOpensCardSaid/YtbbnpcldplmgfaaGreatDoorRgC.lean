/- Joined: TsRef TsRefM TsRef2 TsMath5 TsRef3 TsRef4. -/
import Derived.Test.YtbbnpcldplmgfaaGreatDoorRgB
import Derived.Test.YtbbnpcldplmgfaaGreatDoorCmRow
import Derived.Deep.RegionHeld3
section
namespace Go.Proofs.YtbbnpcldplmgfaaGreatDoor.Tal
open Go.RowKit Cm
theorem low_up (c : UInt8) (h : 128 ≤ c.toNat) : UInt8.ofNat (c.toNat % 128 + 128) = c := by
  have := c.toNat_lt
  rw [show c.toNat % 128 + 128 = c.toNat by omega]; simp
def high (c : UInt8) : UInt8 := UInt8.ofNat (c.toNat % 128 + 128)
theorem map_up (m : Nat) : (Ta.up m).map high = Ta.up m := by
  have h := Ta.up_high m
  have : ∀ c ∈ Ta.up m, high c = c := fun c hc => low_up c (h c hc)
  rw [List.map_congr_left this, List.map_id']
/-- The document's way to a number's bytes. -/
theorem num_ref (n : Nat) (h : ¬ n < 128) : Ta.num n = (Ta.num (n / 128 - 1)).map high ++ [UInt8.ofNat (n % 128)] := by
  unfold Ta.num
  rw [List.map_append, map_up, Ta.up_pos (m := n / 128) (by omega)]
  simp only [List.map_cons, List.map_nil]
  have e : high (UInt8.ofNat ((n / 128 - 1) % 128)) = UInt8.ofNat (128 + (n / 128 - 1) % 128) := by
    unfold high
    have : (UInt8.ofNat ((n / 128 - 1) % 128)).toNat = (n / 128 - 1) % 128 := by simp; omega
    rw [this, show (n / 128 - 1) % 128 % 128 + 128 = 128 + (n / 128 - 1) % 128 by omega]
  rw [e]
theorem num_small (n : Nat) (h : n < 128) : Ta.num n = [UInt8.ofNat n] := by
  unfold Ta.num
  rw [show n / 128 = 0 by omega, show n % 128 = n by omega, Ta.up_zero]; rfl
theorem bytes_conv (w : World) (s : ByteArray) : ∃ cap w1, (convert 9 97 (.string s)).run Tryz.prog w = .ok (.slice (some ⟨w.heap.size, 0, none⟩) s.size cap) w1 ∧ RowAt w1 w.heap.size (s.data.toList.map bv) ∧ Below w.heap.size w w1 := by
  have hsz : s.data.toList.length = s.size := by simp
  refine ⟨_, _, run_bytes_of_string w _ _ _ s und_str und_bytes und_u8, ⟨by simp, fun j hj => ?_, fun j hj => ?_⟩, (Below.refl _ w).drew.alloc (Nat.le_refl _) _⟩
  · have hj' : j < s.data.size := by simpa using hj
    have h := World.cell?_alloc_mark w.drew (bytesRow s (grownCap w s.size 0 5)) 5 ((bytesRow s (grownCap w s.size 0 5)).size, (bytesRow s (grownCap w s.size 0 5)).size + 1) j
    rw [bytesRow_at s _ j hj'] at h
    refine Eq.trans h ?_
    simp [bv]
  · have hj' : j < s.data.size := by simpa using hj
    have h := World.frozen?_alloc_mark w.drew (bytesRow s (grownCap w s.size 0 5)) 5 (bytesRow s (grownCap w s.size 0 5)).size ((bytesRow s (grownCap w s.size 0 5)).size + 1) j
    refine Eq.trans h ?_
    have : s.data.size ≤ (bytesRow s (grownCap w s.size 0 5)).size := by unfold bytesRow; simp
    rw [decide_eq_false (by omega)]; rfl
/-- 'string(b)' of a row of bytes. -/
theorem row_str {w : World} {g cap : Nat} {l : List UInt8} (h : RowAt w g (l.map bv)) :
    (convert 97 9 (.slice (some ⟨g, 0, none⟩) l.length cap)).run Tryz.prog w = .ok (.string ⟨l.toArray⟩) w := by
  refine run_convert_bytes_back w _ _ _ ⟨g, 0, none⟩ cap l und_bytes und_u8 und_str ?_
  intro j hj
  have := h.cell j (by simpa using hj)
  rw [Go.WideShapes.add_plain, Nat.zero_add, this]
  simp [bv]
theorem one_str (w : World) (n : Nat) (h : n < 256) : (convert 97 9 (.slice (some ⟨w.heap.size, 0, none⟩) 1 1)).run Tryz.prog (w.alloc (.cells #[.int .u8 n] 5)) = .ok (.string ⟨#[UInt8.ofNat n]⟩) (w.alloc (.cells #[.int .u8 n] 5)) := by
  have e : (.int .u8 n : Value) = bv (UInt8.ofNat n) := by unfold bv; simp; omega
  have h2 := row_new w [bv (UInt8.ofNat n)] 5
  rw [e]
  exact row_str (l := [UInt8.ofNat n]) h2
theorem cat_mk (x : List UInt8) (s : ByteArray) : (⟨x.toArray⟩ : ByteArray) ++ s = ⟨(x ++ s.data.toList).toArray⟩ := by
  apply ByteArray.ext
  apply Array.ext'
  simp
set_option maxRecDepth 100000 in
set_option maxHeartbeats 800000 in
theorem refNum_c (n : Nat) : ∀ w : World, n < 18446744073709551616 → Calls Tryz.prog 75 #[.int .u64 n] w (PutRes (Ta.num n) w) := by
  induction n using Nat.strongRecOn with
  | _ n ih =>
    intro w hn
    by_cases hs : n < 128
    · have HN := Lib.hid (num_small n hs)
      have h1 := one_str w n (by omega)
      clear ih
      go_enter Tryz.func75, Tryz.ntmps75
      go_wp2_with fail
      go_ret
      rw [HN.out]
      exact ⟨rfl, (Below.refl _ w).alloc (Nat.le_refl _) _⟩
    · have HN := Lib.hid (num_ref n hs)
      have K := Lib.hid (ih (n / 128 - 1) (by omega))
      clear ih
      have e1 : ((n / 128 - 1 : Nat) : Int) = (n : Int) / 128 - 1 := by omega
      have E1 := Lib.hid e1
      clear e1
      have hl := Ta.num_len (n / 128 - 1) (by omega)
      generalize hL : Ta.num (n / 128 - 1) = l at *
      clear hL
      go_enter Tryz.func75, Tryz.ntmps75
      go_wp2_with fail
      rw [← E1.out]
      refine (K.out w (by omega)).mono ?_
      rintro e w1 ⟨rfl, b1⟩
      obtain ⟨cap, w2, hcv, hr, b2⟩ := bytes_conv w1 ⟨l.toArray⟩
      have HR := Lib.hid hr
      have B2 := Lib.hid (show Below w.heap.size w w2 from b1.trans (b2.mono b1.size))
      have hg : w.heap.size ≤ w1.heap.size := b1.size
      clear hr b1 b2 K
      go_wp2_with fail
      generalize w1.heap.size = g at *
      clear hcv
      go_loopw [4] (fun s4 wr => ∃ k : Nat, k ≤ l.length ∧ s4 = .int .i64 k ∧ RowAt wr g (mix (fun c => bv (high c)) bv l k) ∧ Below w.heap.size w wr) (fun s4 _ => l.length - (intOf s4).toNat)
      case atStart => exact ⟨0, by omega, rfl, by rw [mix_zero]; exact HR.out, B2.out⟩
      case round =>
        obtain ⟨k, hk, rfl, hrow, hB⟩ := hrel
        have HW := Lib.hid hrow
        have HB := Lib.hid hB
        clear hrow hB HR B2
        by_cases hlt : k < l.length
        · have hb : l[k].toNat < 256 := l[k].toNat_lt
          have hcell := HW.out.cell k (by rw [mix_len]; exact hlt)
          rw [mix_at _ _ _ _ hlt] at hcell
          have hcell2 : wr.cell? ⟨g, k, none⟩ = some (.int .u8 l[k].toNat) := hcell
          have hfree := HW.out.free k (by rw [mix_len]; exact hlt)
          have HV := Lib.hid (show bv (high l[k]) = .int .u8 ((l[k].toNat : Int) % 128 + 128) by unfold bv high; simp; omega)
          clear hcell
          go_wp2_with fail
          exact ⟨⟨k + 1, by omega, by simp, by rw [← HV.out, ← mix_set _ _ _ _ hlt]; exact HW.out.set k _, HB.out.setCell (by exact hg) _⟩, by simp [intOf]; omega⟩
        · have HW2 : RowAt wr g ((l.map high).map bv) := by
            have := HW.out
            rw [mix_all _ _ _ _ (by omega)] at this
            rw [List.map_map]
            exact this
          have hcs := row_str (cap := cap) HW2
          simp only [List.length_map] at hcs
          have h1 := one_str wr (n % 128) (by omega)
          rw [show ((n % 128 : Nat) : Int) = (n : Int) % 128 by omega] at h1
          clear HW2
          go_wp2_with fail
          go_ret
          refine ⟨?_, HB.out.alloc (Nat.le_trans hg (Nat.le_of_lt HW.out.lt)) _⟩
          rw [HN.out, cat_mk]
          rfl
theorem refText_c (s : ByteArray) (w : World) (hs : s.size ≤ 1099511627776) :
    Calls Tryz.prog 76 #[.string s] w (PutRes (txt s.data.toList) w) := by
  have K := Lib.hid (refNum_c s.size w (by omega))
  have hl := Ta.num_len s.size (by omega)
  go_enter Tryz.func76, Tryz.ntmps76
  go_wp2_with fail
  refine K.out.mono ?_
  rintro e w1 ⟨rfl, b1⟩
  have hcat : (Ta.num s.size).length + s.size ≤ 9223372036854775807 := by omega
  go_wp2_with fail
  go_ret
  refine ⟨?_, b1⟩
  rw [cat_mk]
  simp [txt]
theorem cat_mk2 (x y : List UInt8) : (⟨x.toArray⟩ : ByteArray) ++ (⟨y.toArray⟩ : ByteArray) = ⟨(x ++ y).toArray⟩ := cat_mk x ⟨y.toArray⟩
theorem row_so_far (L : List ByteArray) (k : Nat) (hl : L.length ≤ 1073741824) (ht : total L ≤ 1073741824) : (Ta.num L.length ++ txts (L.take k)).length ≤ 1099511627776 := by
  have h1 := Ta.num_len L.length (by omega)
  have h2 := txts_len (L.take k) (fun x hx => by have := total_mem L x (List.mem_of_mem_take hx); omega)
  have h3 := total_take L k
  simp at h2 ⊢
  omega
set_option maxRecDepth 100000 in
theorem refRow_c (w : World) (a : Option Addr) (cap : Nat) (L : List ByteArray) (hL : Strs w a L) (hl : L.length ≤ 1073741824) (ht : total L ≤ 1073741824) :
    Calls Tryz.prog 50 #[.slice a L.length cap] w (PutRes (row L) w) := by
  have K := Lib.hid (refNum_c L.length w (by omega))
  have K2 := Lib.hid (fun (s : ByteArray) (w : World) (hs : s.size ≤ total L) => refText_c s w (by omega))
  have HLS := Lib.hid hL
  have HM := Lib.hid (fun k => row_so_far L k hl ht)
  have HT := Lib.hid ht
  have HX := Lib.hid (total_mem L)
  clear hL ht
  go_enter Tryz.func50, Tryz.ntmps50
  go_wp2_with fail
  refine K.out.mono ?_
  rintro e w1 ⟨rfl, b1⟩
  have HB := Lib.hid b1
  clear b1 K
  go_wp2_with fail
  go_loopw [3, 4] (fun s3 s4 wr => ∃ k : Nat, k ≤ L.length ∧ s4 = .int .i64 k ∧ s3 = .string ⟨(Ta.num L.length ++ txts (L.take k)).toArray⟩ ∧ Below w.heap.size w wr) (fun _ s4 _ => L.length - (intOf s4).toNat)
  case atStart => exact ⟨0, by omega, rfl, by simp [txts], HB.out⟩
  case round =>
    obtain ⟨k, hk, rfl, rfl, hB⟩ := hrel
    have HB2 := Lib.hid hB
    clear hB HB
    by_cases hlt : k < L.length
    · obtain ⟨b, off, rfl, hb, hcell0⟩ := HLS.out k hlt
      have hcell := Lib.hid (show _ = _ from (HB2.out.cell (p := ⟨b, off + k, none⟩) (by simpa using hb)).trans hcell0)
      clear hcell0
      have hcell := hcell.out
      have hx := HX.out L[k] (by simp)
      have hm := HM.out k
      have hT := HT.out
      have htl := txt_len L[k].data.toList (by have : L[k].data.toList.length = L[k].size := by simp
                                               omega)
      have htl2 : (txt L[k].data.toList).length ≤ 10 + L[k].size := by simpa using htl
      have hcat : (Ta.num L.length ++ txts (L.take k)).length + (txt L[k].data.toList).length ≤ 9223372036854775807 := by omega
      have HS := Lib.hid (show Ta.num L.length ++ txts (L.take (k + 1)) = (Ta.num L.length ++ txts (L.take k)) ++ txt L[k].data.toList by rw [txts_take L k hlt, List.append_assoc])
      generalize Ta.num L.length ++ txts (L.take k) = pre at *
      go_wp2_with fail
      refine (K2.out L[k] _ hx).mono ?_
      rintro e w2 ⟨rfl, b2⟩
      go_wp2_with fail
      go_round
      case rel => exact ⟨k + 1, by omega, by simp, by rw [cat_mk2, HS.out], HB2.out.trans (b2.mono HB2.out.size)⟩
      case measure => simp [intOf]; omega
    · obtain rfl : k = L.length := by omega
      rw [List.take_length]
      go_wp2_with fail
      go_ret
      exact ⟨rfl, HB2.out⟩
end Go.Proofs.YtbbnpcldplmgfaaGreatDoor.Tal
end
section
namespace Go.Proofs.YtbbnpcldplmgfaaGreatDoor.Ta
def isHi (c : UInt8) : Bool := decide (128 ≤ c.toNat)
theorem low_of (n : Nat) : isHi (UInt8.ofNat (n % 128)) = false := by
  unfold isHi
  have : (UInt8.ofNat (n % 128)).toNat = n % 128 := by simp; omega
  rw [this, decide_eq_false (by omega)]
theorem num_hi (m : Nat) (d : List UInt8) : (num m ++ d).takeWhile isHi = up (m / 128) := by
  unfold num
  rw [List.append_assoc, List.takeWhile_append_of_pos (fun c hc => by unfold isHi; exact decide_eq_true (up_high _ c hc))]
  simp [low_of]
theorem num_pre (m x : Nat) (d r : List UInt8) (h : num m ++ d = num x ++ r) : num m = num x := by
  have h1 := num_hi m d
  rw [h, num_hi] at h1
  unfold num at h ⊢
  rw [h1, List.append_assoc, List.append_assoc] at h
  have h2 := List.append_cancel_left h
  simp at h2
  rw [h1, h2.1]
def val (l : List UInt8) : Nat := l.foldl (fun a c => a * 128 + c.toNat % 128 + 1) 0
theorem val_up (m : Nat) : val (up m) = m := by
  induction m using Nat.strongRecOn with
  | _ m ih =>
    by_cases h : m = 0
    · subst h; rw [up_zero]; rfl
    · rw [up_pos (by omega)]
      have := ih ((m - 1) / 128) (by omega)
      unfold val at *
      rw [List.foldl_append, this]
      have ht : (UInt8.ofNat (128 + (m - 1) % 128)).toNat = 128 + (m - 1) % 128 := by simp; omega
      simp only [List.foldl_cons, List.foldl_nil, ht]
      omega
theorem val_num (n : Nat) : val (num n) = n + 1 := by
  unfold num
  have := val_up (n / 128)
  unfold val at *
  rw [List.foldl_append, this]
  have ht : (UInt8.ofNat (n % 128)).toNat = n % 128 := by simp; omega
  simp only [List.foldl_cons, List.foldl_nil, ht]
  omega
theorem num_inj {m x : Nat} (h : num m = num x) : m = x := by
  have h1 := val_num m
  rw [h, val_num] at h1
  omega
theorem take_over (b d : List UInt8) (m : Nat) (hb : num m ++ d = b) (hm : 18446744073709551616 ≤ m) : take 0 b = none := by
  cases h : take 0 b with
  | none => rfl
  | some p =>
    obtain ⟨x, r⟩ := p
    have h1 := take_once _ _ _ _ h
    have h2 := take_bound _ _ _ _ h
    rw [up_zero, List.nil_append, ← hb] at h1
    have := num_inj (num_pre _ _ _ _ h1)
    omega
theorem take_hi (b : List UInt8) (acc j : Nat) (hu : up acc = b.take j) (hj : b.length ≤ j ∨ 10 ≤ j) : take 0 b = none := by
  cases h : take 0 b with
  | none => rfl
  | some p =>
    obtain ⟨x, r⟩ := p
    have h1 := take_once _ _ _ _ h
    have h2 := take_bound _ _ _ _ h
    rw [up_zero, List.nil_append] at h1
    have h3 := num_len x h2.1
    exfalso
    have h4 : UInt8.ofNat (x % 128) ∈ b.take j := by
      rw [← h1]
      rcases hj with hj | hj
      · rw [List.take_of_length_le (by rw [h1]; exact hj)]
        unfold num; simp
      · rw [List.take_append]
        rw [List.take_of_length_le (by omega)]
        unfold num; simp
    rw [← hu] at h4
    have h5 := up_high _ _ h4
    have : (UInt8.ofNat (x % 128)).toNat = x % 128 := by simp; omega
    omega
theorem up_more (b : List UInt8) (acc j : Nat) (hu : up acc = b.take j) (h : j < b.length) (hc : ¬ b[j].toNat < 128) : up (acc * 128 + (b[j].toNat - 128) + 1) = b.take (j + 1) := by
  rw [up_next acc b[j] hc, hu, List.take_succ_eq_append_getElem h]
theorem num_more (b : List UInt8) (acc j : Nat) (hu : up acc = b.take j) (h : j < b.length) (hc : b[j].toNat < 128) : num (acc * 128 + b[j].toNat) = b.take (j + 1) := by
  rw [num_end acc b[j] hc, hu, List.take_succ_eq_append_getElem h]
theorem take_here (b : List UInt8) (acc j : Nat) (hu : up acc = b.take j) (h : j < b.length) (hc : b[j].toNat < 128) (hm : acc * 128 + b[j].toNat < 18446744073709551616) : take 0 b = some (acc * 128 + b[j].toNat, b.drop (j + 1)) := by
  have h1 := num_more b acc j hu h hc
  have h2 := take_back (acc * 128 + b[j].toNat) (b.drop (j + 1)) hm
  rw [h1, List.take_append_drop] at h2
  exact h2
theorem take_not (b : List UInt8) (acc j : Nat) (hu : up acc = b.take j) (h : j < b.length) (hc : b[j].toNat < 128) (hm : ¬ acc * 128 + b[j].toNat < 18446744073709551616) : take 0 b = none := by
  have h1 := num_more b acc j hu h hc
  exact take_over b (b.drop (j + 1)) (acc * 128 + b[j].toNat) (by rw [h1, List.take_append_drop]) (by omega)
end Go.Proofs.YtbbnpcldplmgfaaGreatDoor.Ta
end
section
namespace Go.Proofs.YtbbnpcldplmgfaaGreatDoor.Tal
open Go.RowKit Cm
/-- How far the document's way has come: j bytes, all high; what they say; what the register holds. -/
def Far (b : List UInt8) (j acc : Nat) (nv : Nat) : Prop := Ta.up acc = b.take j ∧ nv < 18446744073709551616 ∧ (j = 0 → nv = 0 ∧ acc = 0) ∧ (j ≠ 0 → acc % 18446744073709551616 = (nv + 1) % 18446744073709551616)
def nextN (j nv c : Nat) : Nat := if j = 0 then c % 128 else (128 * ((nv + 1) % 18446744073709551616) % 18446744073709551616 + c % 128) % 18446744073709551616
theorem nextN_0 (j nv c : Nat) (h : j = 0) : nextN j nv c = c % 128 := by unfold nextN; rw [if_pos h]
theorem nextN_1 (j nv c : Nat) (h : j ≠ 0) : ((nextN j nv c : Nat) : Int) = IntKind.u64.wrap (IntKind.u64.wrap (128 * IntKind.u64.wrap ((nv : Int) + 1)) + (c : Int) % 128) := by
  unfold nextN; rw [if_neg h, IntKind.wrap_u64, IntKind.wrap_u64, IntKind.wrap_u64]; omega
theorem nextN_lt (j nv c : Nat) : nextN j nv c < 18446744073709551616 := by unfold nextN; split <;> omega
theorem far_next (b : List UInt8) (j acc nv : Nat) (h : Far b j acc nv) (hj : j < b.length) (hc : ¬ b[j].toNat < 128) : Far b (j + 1) (acc * 128 + (b[j].toNat - 128) + 1) (nextN j nv b[j].toNat) := by
  obtain ⟨h1, h2, h3, h4⟩ := h
  have := b[j].toNat_lt
  refine ⟨Ta.up_more b acc j h1 hj hc, nextN_lt _ _ _, fun e => by omega, fun _ => ?_⟩
  unfold nextN
  split
  · rename_i h0
    have := h3 h0
    omega
  · rename_i h0
    have := h4 h0
    omega
theorem far_low (b : List UInt8) (j acc nv : Nat) (h : Far b j acc nv) (hc : b[j]!.toNat < 128) : nextN j nv b[j]!.toNat = (acc * 128 + b[j]!.toNat) % 18446744073709551616 := by
  obtain ⟨h1, h2, h3, h4⟩ := h
  unfold nextN
  split
  · rename_i h0
    have := h3 h0
    omega
  · rename_i h0
    have := h4 h0
    omega
/-- What the document's way does at a low byte: it holds the number's bytes against those that it read. -/
theorem low_yes (b : List UInt8) (j nv c : Nat) (hN : Ta.num (nextN j nv c) = b.take (j + 1)) : Ta.take 0 b = some (nextN j nv c, b.drop (j + 1)) := by
  have h2 := Ta.take_back (nextN j nv c) (b.drop (j + 1)) (nextN_lt _ _ _)
  rw [hN, List.take_append_drop] at h2
  exact h2
theorem low_no (b : List UInt8) (j acc nv : Nat) {c' : UInt8} (h : Far b j acc nv) (hj : j < b.length) (e : b[j] = c') (hc : c'.toNat < 128) (hN : Ta.num (nextN j nv c'.toNat) ≠ b.take (j + 1)) : Ta.take 0 b = none := by
  subst e
  refine Ta.take_not b acc j h.1 hj hc (fun hm => hN ?_)
  have h1 := far_low b j acc nv h (by rw [getElem!_pos b j hj]; exact hc)
  rw [getElem!_pos b j hj] at h1
  rw [h1, Nat.mod_eq_of_lt hm]
  exact Ta.num_more b acc j h.1 hj hc
theorem str_eq (N : Nat) (s : ByteArray) (k : Nat) (h : Ta.num N = s.data.toList.take k) : (⟨(Ta.num N).toArray⟩ : ByteArray) = s.extract 0 k := by
  rw [h]
  apply ByteArray.ext
  apply Array.ext'
  simp
theorem ext_list (s : ByteArray) (k : Nat) : (s.extract 0 k).toList = s.data.toList.take k := by
  have e : s.extract 0 k = ⟨(s.data.toList.take k).toArray⟩ := by
    apply ByteArray.ext
    apply Array.ext'
    simp
  rw [e]
  exact ByteArray.toList_mk _
theorem str_neq (N : Nat) (s : ByteArray) (k : Nat) (h : Ta.num N ≠ s.data.toList.take k) : (Ta.num N == (s.extract 0 k).toList) = false := by
  rw [ext_list]
  exact beq_eq_false_iff_ne.2 h
theorem drop_str (s : ByteArray) (k : Nat) : s.extract k s.size = ⟨(s.data.toList.drop k).toArray⟩ := ext_drop s k
set_option maxRecDepth 100000 in
set_option maxHeartbeats 1600000 in
theorem refTakeNum_c (s : ByteArray) (w : World) (hs : s.size ≤ 4611686018427387904) :
    Calls Tryz.prog 70 #[.string s] w (NumRes (Ta.take 0 s.data.toList) w) := by
  go_enter Tryz.func70, Tryz.ntmps70
  go_wp2_with fail
  go_loopw [5, 6] (fun n k wr => ∃ (j acc nv : Nat), j ≤ s.size ∧ j ≤ 10 ∧ k = .int .i64 ((j : Int) + 1) ∧ n = .int .u64 nv ∧ Far s.data.toList j acc nv ∧ Below w.heap.size w wr) (fun _ k _ => 11 - (intOf k).toNat)
  case atStart => exact ⟨0, 0, 0, by omega, by omega, rfl, rfl, ⟨by rw [Ta.up_zero]; simp, by omega, fun _ => ⟨rfl, rfl⟩, fun h => absurd rfl h⟩, Below.refl _ _⟩
  case round =>
    obtain ⟨j, acc, nv, hj, hj10, rfl, rfl, hf0, hB0⟩ := hrel
    have HF := Lib.hid hf0
    have HB := Lib.hid hB0
    clear hf0 hB0
    by_cases hlt : j < s.size
    · by_cases h10 : j < 10
      · have hb : s[j].toNat < 256 := s[j].toNat_lt
        have q0 : (0 : Int) ≤ (j : Int) + 1 := by omega
        have q1 : (j : Int) + 1 ≤ (s.size : Int) := by omega
        have HL := Lib.hid (show j < s.data.toList.length by simpa using hlt)
        have HC := Lib.hid (show s.data.toList[j]'(by simpa using hlt) = s[j] by simp; rfl)
        rcases Nat.eq_zero_or_pos j with rfl | h0
        · obtain ⟨rfl, rfl⟩ := HF.out.2.2.1 rfl
          by_cases hc : (s[0].toNat : Int) < 128
          · obtain ⟨acc, HA⟩ : ∃ acc, Hid (acc = 0) := ⟨0, rfl⟩
            obtain ⟨nv, HV⟩ : ∃ nv, Hid (nv = 0) := ⟨0, rfl⟩
            have HF := Lib.hid (show Far s.data.toList 0 acc nv by rw [HA.out, HV.out]; exact HF.out)
            obtain ⟨N, HG⟩ : ∃ N, Hid (N = nextN 0 nv s[0].toNat) := ⟨_, Lib.hid rfl⟩
            have HN := Lib.hid (show (s[0].toNat : Int) % 128 = (N : Int) by rw [HG.out, nextN_0 _ _ _ rfl]; omega)
            have K := Lib.hid (fun (z : Int) w (h : z = (N : Int)) => h ▸ refNum_c N w (by rw [HG.out]; exact nextN_lt _ _ _))
            by_cases hq : Ta.num N = s.data.toList.take 1
            · have he := str_eq N s 1 hq
              have HX := Lib.hid (low_yes s.data.toList 0 nv s[0].toNat (by rw [HG.out] at hq; exact hq))
              have HD := Lib.hid (drop_str s 1)
              have HG2 := Lib.hid (show N < 18446744073709551616 by rw [HG.out]; exact nextN_lt _ _ _)
              clear hq
              go_wp2_with fail
              go_region_held3 (fun u => Below w.heap.size w u) (first | exact HB.out | exact HB.out.drew | exact D1 | assumption)
                (first | (go_at_call 75; refine (K.out _ _ ?_).mono ?_; exact HN.out; rintro e u1 ⟨rfl, b1⟩; have D1 := Below.trans (by assumption) (b1.mono (Below.size (by assumption)))))
              go_wp2_with fail
              go_quiet (fail)
              go_wp2_with fail
              go_ret3
              rw [HX.out]
              exact ⟨ret_isb (by rw [← HG.out]; exact HN.out) HD.out rfl, ⟨D1.os, D1.tape, D1.output, D1.size, D1.block⟩⟩
            · have he := str_neq N s 1 hq
              have HX := Lib.hid (low_no s.data.toList 0 acc nv HF.out HL.out HC.out (by omega) (by rw [HG.out] at hq; exact hq))
              clear hq
              go_wp2_with fail
              go_region_held3 (fun u => Below w.heap.size w u) (first | exact HB.out | exact HB.out.drew | exact D1 | assumption)
                (first | (go_at_call 75; refine (K.out _ _ ?_).mono ?_; exact HN.out; rintro e u1 ⟨rfl, b1⟩; have D1 := Below.trans (by assumption) (b1.mono (Below.size (by assumption)))))
              go_wp2_with fail
              go_ret3
              rw [HX.out]
              exact ⟨rfl, D1⟩
          · have HF2 := Lib.hid (far_next s.data.toList 0 0 0 HF.out HL.out (by rw [HC.out]; omega))
            rw [HC.out, nextN_0 _ _ _ rfl] at HF2
            go_wp2_with fail
            exact ⟨⟨1, _, s[0].toNat % 128, by omega, by omega, rfl, congrArg (Value.int .u64) (by omega), HF2.out, HB.out⟩, by simp [intOf]⟩
        · by_cases hc : (s[j].toNat : Int) < 128
          · obtain ⟨N, HG⟩ : ∃ N, Hid (N = nextN j nv s[j].toNat) := ⟨_, Lib.hid rfl⟩
            have HN := Lib.hid (show IntKind.u64.wrap (IntKind.u64.wrap (128 * IntKind.u64.wrap ((nv : Int) + 1)) + (s[j].toNat : Int) % 128) = (N : Int) by rw [HG.out, nextN_1 _ _ _ (by omega)])
            have K := Lib.hid (fun (z : Int) w (h : z = (N : Int)) => h ▸ refNum_c N w (by rw [HG.out]; exact nextN_lt _ _ _))
            by_cases hq : Ta.num N = s.data.toList.take (j + 1)
            · have he := str_eq N s (j + 1) hq
              have HX := Lib.hid (low_yes s.data.toList j nv s[j].toNat (by rw [HG.out] at hq; exact hq))
              have HD := Lib.hid (drop_str s (j + 1))
              have HG2 := Lib.hid (show N < 18446744073709551616 by rw [HG.out]; exact nextN_lt _ _ _)
              clear hq
              go_wp2_with fail
              go_region_held3 (fun u => Below w.heap.size w u) (first | exact HB.out | exact HB.out.drew | exact D1 | assumption)
                (first | (go_at_call 75; refine (K.out _ _ ?_).mono ?_; exact HN.out; rintro e u1 ⟨rfl, b1⟩; have D1 := Below.trans (by assumption) (b1.mono (Below.size (by assumption)))))
              go_wp2_with fail
              go_quiet (fail)
              go_wp2_with fail
              go_ret3
              rw [HX.out]
              exact ⟨ret_isb (by rw [← HG.out]; exact HN.out) HD.out rfl, ⟨D1.os, D1.tape, D1.output, D1.size, D1.block⟩⟩
            · have he := str_neq N s (j + 1) hq
              have HX := Lib.hid (low_no s.data.toList j acc nv HF.out HL.out HC.out (by omega) (by rw [HG.out] at hq; exact hq))
              clear hq
              go_wp2_with fail
              go_region_held3 (fun u => Below w.heap.size w u) (first | exact HB.out | exact HB.out.drew | exact D1 | assumption)
                (first | (go_at_call 75; refine (K.out _ _ ?_).mono ?_; exact HN.out; rintro e u1 ⟨rfl, b1⟩; have D1 := Below.trans (by assumption) (b1.mono (Below.size (by assumption)))))
              go_wp2_with fail
              go_ret3
              rw [HX.out]
              exact ⟨rfl, D1⟩
          · have HF2 := Lib.hid (far_next s.data.toList j acc nv HF.out HL.out (by rw [HC.out]; omega))
            have HN := Lib.hid (nextN_1 j nv s[j].toNat (by omega))
            rw [HC.out] at HF2
            go_wp2_with fail
            exact ⟨⟨j + 1, _, nextN j nv s[j].toNat, by omega, by omega, by simp, congrArg (Value.int .u64) HN.out.symm, HF2.out, HB.out⟩, by simp [intOf]; omega⟩
      · have HX := Lib.hid (Ta.take_hi s.data.toList acc j HF.out.1 (.inr (by omega)))
        go_wp2_with fail
        go_ret3
        rw [HX.out]
        exact ⟨rfl, HB.out⟩
    · have HX := Lib.hid (Ta.take_hi s.data.toList acc j HF.out.1 (.inl (by simp; omega)))
      go_wp2_with fail
      go_ret3
      rw [HX.out]
      exact ⟨rfl, HB.out⟩
end Go.Proofs.YtbbnpcldplmgfaaGreatDoor.Tal
end
section
namespace Go.Proofs.YtbbnpcldplmgfaaGreatDoor.Tal
open Go.RowKit
def txtsL : List (List UInt8) → List UInt8
  | [] => []
  | s :: L => txt s ++ txtsL L
def rowL (L : List (List UInt8)) : List UInt8 := Ta.num L.length ++ txtsL L
def bas (L : List (List UInt8)) : List ByteArray := L.map fun x => ⟨x.toArray⟩
theorem txts_bas (L : List (List UInt8)) : txts (bas L) = txtsL L := by
  induction L with
  | nil => rfl
  | cons s L ih => show txt s ++ txts (bas L) = _; rw [ih]; rfl
theorem row_bas (L : List (List UInt8)) : row (bas L) = rowL L := by
  unfold row rowL; rw [txts_bas]; simp [bas]
theorem txtsL_append (L M : List (List UInt8)) : txtsL (L ++ M) = txtsL L ++ txtsL M := by
  induction L with
  | nil => rfl
  | cons s L ih => simp [txtsL, ih]
theorem takeText_once (b x r : List UInt8) (h : Ta.takeText b = some (x, r)) : txt x ++ r = b := by
  unfold Ta.takeText at h
  split at h
  · rename_i n r0 h0
    have h1 := Ta.take_once _ _ _ _ h0
    split at h
    · rename_i hn
      simp only [Option.some.injEq, Prod.mk.injEq] at h
      obtain ⟨rfl, rfl⟩ := h
      rw [Ta.up_zero, List.nil_append] at h1
      rw [← h1]
      unfold txt
      rw [show (r0.take n).length = n by simp; omega, List.append_assoc, List.take_append_drop]
    · simp at h
  · simp at h
theorem takeN_once (n : Nat) : ∀ (acc : List (List UInt8)) (b : List UInt8) (l : List (List UInt8)) (r : List UInt8), takeN n acc b = some (l, r) → txtsL l ++ r = txtsL acc ++ b ∧ l.length = acc.length + n := by
  induction n with
  | zero => intro acc b l r h; simp [takeN] at h; obtain ⟨rfl, rfl⟩ := h; simp
  | succ n ih =>
    intro acc b l r h
    unfold takeN at h
    split at h
    · simp at h
    · rename_i x r0 h0
      have h1 := takeText_once _ _ _ h0
      have h2 := ih _ _ _ _ h
      rw [txtsL_append] at h2
      refine ⟨by rw [h2.1, ← h1]; simp [txtsL], by rw [h2.2]; simp; omega⟩
theorem takeRow_once (b : List UInt8) (l : List (List UInt8)) (r : List UInt8) (h : takeRow b = some (l, r)) : rowL l ++ r = b ∧ l.length ≤ b.length := by
  unfold takeRow at h
  split at h
  · simp at h
  · rename_i n r0 h0
    have h1 := Ta.take_once _ _ _ _ h0
    have h3 := Ta.take_bound _ _ _ _ h0
    split at h
    · rename_i hn
      have h2 := takeN_once _ _ _ _ _ h
      rw [Ta.up_zero, List.nil_append] at h1
      simp [txtsL] at h2
      refine ⟨?_, by omega⟩
      rw [← h1, ← h2.1]
      unfold rowL
      rw [h2.2]; simp
    · simp at h
theorem takeText_back (x r : List UInt8) (h : x.length < 18446744073709551616) : Ta.takeText (txt x ++ r) = some (x, r) := by
  unfold Ta.takeText txt
  rw [List.append_assoc, Ta.take_back _ _ h]
  simp
theorem takeN_back (L : List (List UInt8)) (hL : ∀ x ∈ L, x.length < 18446744073709551616) : ∀ (acc : List (List UInt8)) (r : List UInt8), takeN L.length acc (txtsL L ++ r) = some (acc ++ L, r) := by
  induction L with
  | nil => intro acc r; simp [takeN, txtsL]
  | cons x L ih =>
    intro acc r
    have h1 := takeText_back x (txtsL L ++ r) (hL x (by simp))
    show takeN (L.length + 1) acc (txt x ++ txtsL L ++ r) = _
    rw [List.append_assoc]
    unfold takeN
    rw [h1]
    show takeN L.length (acc ++ [x]) (txtsL L ++ r) = _
    rw [ih (fun y hy => hL y (by simp [hy]))]
    simp
theorem txtsL_len (L : List (List UInt8)) : L.length ≤ (txtsL L).length := by
  induction L with
  | nil => simp [txtsL]
  | cons x L ih =>
    have : 1 ≤ (txt x).length := by unfold txt Ta.num; simp; omega
    simp [txtsL]; omega
theorem takeRow_back (L : List (List UInt8)) (r : List UInt8) (hL : ∀ x ∈ L, x.length < 18446744073709551616) (hl : L.length < 18446744073709551616) : takeRow (rowL L ++ r) = some (L, r) := by
  unfold takeRow rowL
  rw [List.append_assoc, Ta.take_back _ _ hl]
  have := txtsL_len L
  simp only
  rw [if_pos (by simp; omega), takeN_back L hL]
  simp
end Go.Proofs.YtbbnpcldplmgfaaGreatDoor.Tal
end
section
namespace Go.Proofs.YtbbnpcldplmgfaaGreatDoor.Tal
open Go.RowKit Cm
set_option maxRecDepth 100000 in
set_option maxHeartbeats 800000 in
theorem refTakeText_c (s : ByteArray) (w : World) (hs : s.size ≤ 4611686018427387904) :
    Calls Tryz.prog 71 #[.string s] w (TextRes (Ta.takeText s.data.toList) w) := by
  cases hT : Ta.take 0 s.data.toList with
  | none =>
    have HX := Lib.hid (show Ta.takeText s.data.toList = none by unfold Ta.takeText; rw [hT])
    have K := Lib.hid (hT ▸ refTakeNum_c s w hs)
    clear hT hs
    go_enter Tryz.func71, Tryz.ntmps71
    go_wp2_with fail
    refine K.out.mono ?_
    rintro e w1 ⟨rfl, b1⟩
    go_wp2_with fail
    go_loop [8] (fun k => k = .int .i64 0) (fun _ => 0)
    case atStart => rfl
    case round =>
      obtain rfl := hrel
      go_wp2_with fail
      go_ret3
      rw [HX.out]
      exact ⟨rfl, b1⟩
  | some x =>
    obtain ⟨n, r⟩ := x
    have hn := Ta.take_bound _ _ _ _ hT
    have hrl : r.length ≤ 4611686018427387904 := by
      have : s.data.toList.length = s.size := by simp
      omega
    have hn1 := hn.1
    have K := Lib.hid (hT ▸ refTakeNum_c s w hs)
    have HX := Lib.hid (show Ta.takeText s.data.toList = if n ≤ r.length then some (r.take n, r.drop n) else none by unfold Ta.takeText; rw [hT])
    clear hT hs hn
    go_enter Tryz.func71, Tryz.ntmps71
    go_wp2_with fail
    refine K.out.mono ?_
    rintro e w1 ⟨rfl, b1⟩
    go_wp2_with fail
    go_loop [8] (fun k => ∃ j : Nat, j ≤ r.length + 1 ∧ j ≤ n ∧ k = .int .i64 j) (fun k => r.length + 1 - (intOf k).toNat)
    case atStart => exact ⟨0, by omega, by omega, rfl⟩
    case round =>
      obtain ⟨j, hj, hjn, rfl⟩ := hrel
      by_cases hlt : j ≤ r.length
      · by_cases he : j = n
        · subst he
          have HY := Lib.hid (show Ta.takeText s.data.toList = some (r.take j, r.drop j) by rw [HX.out, if_pos hlt])
          have q0 : (0 : Int) ≤ (j : Int) := by omega
          have q1 : (j : Int) ≤ (r.length : Int) := by omega
          go_wp2_with fail
          go_quiet (fail)
          go_wp2_with fail
          go_ret3
          rw [HY.out]
          exact ⟨ret_ssb (ext_mk_take _ _) (ext_mk_drop _ _) rfl, ⟨b1.os, b1.tape, b1.output, b1.size, b1.block⟩⟩
        · have hne : ((j : Int) == (n : Int)) = false := beq_eq_false_iff_ne.2 (by omega)
          have HE := Lib.hid (show j + 1 ≤ n by omega)
          clear he
          go_wp2_with fail
          go_round
          case rel => exact ⟨j + 1, by omega, HE.out, by go_num⟩
          case measure => simp [intOf]; omega
      · have HY := Lib.hid (show Ta.takeText s.data.toList = none by rw [HX.out, if_neg (by omega)])
        go_wp2_with fail
        go_ret3
        rw [HY.out]
        exact ⟨rfl, b1⟩
end Go.Proofs.YtbbnpcldplmgfaaGreatDoor.Tal
end
section
namespace Go.Proofs.YtbbnpcldplmgfaaGreatDoor.Tal
open Go.RowKit Cm
theorem takeN_len (n : Nat) : ∀ (acc : List (List UInt8)) (b : List UInt8) (x : List (List UInt8) × List UInt8), takeN n acc b = some x → n ≤ b.length := by
  induction n with
  | zero => intro acc b x h; omega
  | succ n ih =>
    intro acc b x h
    unfold takeN at h
    split at h
    · simp at h
    · rename_i y r h0
      have h1 := takeText_len _ _ _ h0
      have h2 := ih _ _ _ h
      omega
theorem takeRow_n (b r : List UInt8) (n : Nat) (h : Ta.take 0 b = some (n, r)) : takeRow b = takeN n [] r := by
  unfold takeRow
  rw [h]
  simp only
  split
  · rfl
  · rename_i hn
    cases h2 : takeN n [] r with
    | none => rfl
    | some x => exact absurd (takeN_len _ _ _ _ h2) hn
def msr : Value → Value → Nat
  | .string r, .bool true => r.size + 1
  | _, _ => 0
def Step (n : Nat) (r0 r : List UInt8) (acc : List (List UInt8)) (ok : Bool) : Prop :=
  acc.length + r.length ≤ r0.length + 1 ∧ (ok = true → acc.length ≤ n ∧ acc.length + r.length ≤ r0.length ∧ takeN n [] r0 = takeN (n - acc.length) acc r) ∧ (ok = false → takeN n [] r0 = none)
theorem step_some {n : Nat} {r0 r x r' : List UInt8} {acc : List (List UInt8)} (h : Step n r0 r acc true) (hlt : acc.length < n) (hx : Ta.takeText r = some (x, r')) : Step n r0 r' (acc ++ [x]) true := by
  have h1 := takeText_len _ _ _ hx
  obtain ⟨_, h3, _⟩ := h
  obtain ⟨_, h5, h6⟩ := h3 rfl
  refine ⟨by simp; omega, fun _ => ⟨by simp; omega, by simp; omega, ?_⟩, fun e => by cases e⟩
  rw [h6, show n - acc.length = (n - (acc ++ [x]).length) + 1 by simp; omega, takeN, hx]
theorem step_none {n : Nat} {r0 r : List UInt8} {acc : List (List UInt8)} (h : Step n r0 r acc true) (hlt : acc.length < n) (hx : Ta.takeText r = none) : Step n r0 [] (acc ++ [[]]) false := by
  obtain ⟨_, h3, _⟩ := h
  obtain ⟨_, h5, h6⟩ := h3 rfl
  refine ⟨by simp; omega, fun e => (by cases e), fun _ => ?_⟩
  rw [h6, show n - acc.length = (n - acc.length - 1) + 1 by omega, takeN, hx]
theorem step_end {n : Nat} {r0 r : List UInt8} {acc : List (List UInt8)} (h : Step n r0 r acc true) (hge : ¬ acc.length < n) : takeN n [] r0 = some (acc, r) := by
  obtain ⟨_, h3, _⟩ := h
  obtain ⟨h4, h5, h6⟩ := h3 rfl
  rw [h6, show n - acc.length = 0 by omega, takeN]
theorem own_shape {w : World} {base e size n : Nat} {v : Value} {xs : List Value} (h : w.ownsRow base e size v n xs) : ∃ a cap, v = .slice a n cap := by
  rcases h.2 with ⟨rfl, rfl⟩ | ⟨g, cap, _, rfl, _⟩
  · exact ⟨none, 0, rfl⟩
  · exact ⟨_, cap, rfl⟩
set_option maxRecDepth 100000 in
set_option maxHeartbeats 1600000 in
theorem refTakeRow_c (s : ByteArray) (w : World) (hs : s.size ≤ 1073741824) :
    Calls Tryz.prog 44 #[.string s] w (RowRes (takeRow s.data.toList) w) := by
  cases hT : Ta.take 0 s.data.toList with
  | none =>
    have HX := Lib.hid (show takeRow s.data.toList = none by unfold takeRow; rw [hT])
    have K := Lib.hid (hT ▸ refTakeNum_c s w (by omega))
    clear hT hs
    go_enter Tryz.func44, Tryz.ntmps44
    go_wp2_with fail
    refine K.out.mono ?_
    rintro e w1 ⟨rfl, b1⟩
    go_wp2_with fail
    go_loop [7] (fun l => l = .bool false) (fun _ => 0)
    case atStart => rfl
    case round =>
      obtain rfl := hrel
      go_wp2_with fail
      go_ret3
      rw [HX.out]
      exact ⟨_, rfl, b1, World.ownsRow_nil _ _ _ _⟩
  | some x =>
    obtain ⟨n, r0⟩ := x
    have hn := Ta.take_bound _ _ _ _ hT
    have hrl : r0.length ≤ 1073741824 := by
      have : s.data.toList.length = s.size := by simp
      omega
    have hn1 := hn.1
    have K := Lib.hid (hT ▸ refTakeNum_c s w (by omega))
    have HX := Lib.hid (takeRow_n _ _ _ hT)
    obtain ⟨i0, hi, hz0, hz1, hz2⟩ := info_parts Tryz.info9
    clear hT hs hn
    go_enter Tryz.func44, Tryz.ntmps44
    go_wp2_with fail
    refine K.out.mono ?_
    rintro e w1 ⟨rfl, b1⟩
    have HB1 := Lib.hid b1
    clear b1 K
    go_wp2_with fail
    go_loopw [6, 7, 8] (fun s6 s7 s8 wr => ∃ (ok : Bool) (r : List UInt8) (acc : List (List UInt8)), s6 = .string ⟨r.toArray⟩ ∧ s7 = .bool ok ∧ Step n r0 r acc ok ∧ wr.ownsRow w.heap.size 9 1 s8 acc.length (acc.map sv) ∧ Below w.heap.size w wr) (fun s6 s7 _ _ => msr s6 s7)
    case atStart => exact ⟨true, r0, [], rfl, rfl, ⟨by simp, fun _ => ⟨by simp, by simp, rfl⟩, fun e => by cases e⟩, World.ownsRow_nil _ _ _ _, HB1.out⟩
    case round =>
      obtain ⟨ok, r, acc, rfl, rfl, hst, hown, hB⟩ := hrel
      have HS := Lib.hid hst
      have HO := Lib.hid hown
      have HB := Lib.hid hB
      clear hst hown hB HB1
      cases ok with
      | false =>
        have HE := Lib.hid (HS.out.2.2 rfl)
        go_wp2_with fail
        go_ret3
        rw [HX.out, HE.out]
        exact ⟨_, rfl, HB.out, World.ownsRow_nil _ _ _ _⟩
      | true =>
        have hal : acc.length ≤ 1073741824 := by have := (HS.out.2.1 rfl).2.1; omega
        have hrr : r.length ≤ 1073741824 := by have := (HS.out.2.1 rfl).2.1; omega
        obtain ⟨va, vc, rfl⟩ := own_shape HO.out
        have hal9 : acc.length ≤ 9223372036854775807 := by omega
        by_cases hlt : acc.length < n
        · have hltI : (acc.length : Int) < (n : Int) := by omega
          cases hX : Ta.takeText r with
          | none =>
            have HE := Lib.hid (step_none HS.out hlt hX)
            have K := Lib.hid (hX ▸ refTakeText_c ⟨r.toArray⟩ wr (by show r.length ≤ _; omega))
            clear hX
            go_wp2_with fail
            refine K.out.mono ?_
            rintro e w1 ⟨rfl, b1⟩
            have HO1 := Lib.hid (own_later HO.out b1)
            go_wp2_with (at_builtin; refine wpList_append_own _ rfl _ _ 32 rfl w.heap.size 9 i0 (.string ⟨#[]⟩) 1 16 Tryz.underlying32 hi hz0 hz1 hz2 rfl (by decide) _ _ _ rfl (HO1.out.alloc _) ⟨w1.heap.size, 0, none⟩ 1 1 [sv []] rfl ?c0 ?c1 ?c2 ?c3 ?c4 ?c5 ?_)
            case c0 => rfl
            case c1 =>
              intro j u hj
              cases j with
              | zero => simp at hj; subst hj; rw [Go.WideShapes.add_plain, World.cell?_alloc_at _ _ _ _ rfl]; rfl
              | succ j => simp at hj
            case c2 => intro u hu; simp at hu; subst hu; rfl
            case c3 => unfold maxLen; omega
            case c4 => omega
            case c5 => have h1 := HB.out.size; have h2 := b1.size; simp; omega
            intro v' w' hown' hgrow _
            go_wp2_with fail
            have h1 := HB.out.size
            have h2 := b1.size
            go_roundw
            case rel => exact ⟨false, [], acc ++ [[]], rfl, rfl, HE.out, by simpa using hown', ((HB.out.trans (b1.mono h1)).alloc (by omega) _).grown hgrow (by simp; omega) (fun k hk => own_ge HO.out hk)⟩
            case measure => simp [msr]
          | some y =>
            obtain ⟨x, r'⟩ := y
            have HE := Lib.hid (step_some HS.out hlt hX)
            have hxl := takeText_len _ _ _ hX
            have K := Lib.hid (hX ▸ refTakeText_c ⟨r.toArray⟩ wr (by show r.length ≤ _; omega))
            clear hX
            go_wp2_with fail
            refine K.out.mono ?_
            rintro e w1 ⟨rfl, b1⟩
            have HO1 := Lib.hid (own_later HO.out b1)
            go_wp2_with (at_builtin; refine wpList_append_own _ rfl _ _ 32 rfl w.heap.size 9 i0 (.string ⟨#[]⟩) 1 16 Tryz.underlying32 hi hz0 hz1 hz2 rfl (by decide) _ _ _ rfl (HO1.out.alloc _) ⟨w1.heap.size, 0, none⟩ 1 1 [sv x] rfl ?d0 ?d1 ?d2 ?d3 ?d4 ?d5 ?_)
            case d0 => rfl
            case d1 =>
              intro j u hj
              cases j with
              | zero => simp at hj; subst hj; rw [Go.WideShapes.add_plain, World.cell?_alloc_at _ _ _ _ rfl]; rfl
              | succ j => simp at hj
            case d2 => intro u hu; simp at hu; subst hu; rfl
            case d3 => unfold maxLen; omega
            case d4 => omega
            case d5 => have h1 := HB.out.size; have h2 := b1.size; simp; omega
            intro v' w' hown' hgrow _
            go_wp2_with fail
            have h1 := HB.out.size
            have h2 := b1.size
            go_roundw
            case rel => exact ⟨true, r', acc ++ [x], rfl, rfl, HE.out, by simpa using hown', ((HB.out.trans (b1.mono h1)).alloc (by omega) _).grown hgrow (by simp; omega) (fun k hk => own_ge HO.out hk)⟩
            case measure => simp [msr]; show r'.length < r.length; omega
        · have hltI : ¬ (acc.length : Int) < (n : Int) := by omega
          have HE := Lib.hid (step_end HS.out hlt)
          go_wp2_with fail
          go_ret3
          rw [HX.out, HE.out]
          exact ⟨_, rfl, HB.out, HO.out⟩
end Go.Proofs.YtbbnpcldplmgfaaGreatDoor.Tal
end
