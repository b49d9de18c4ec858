/- Joined: CmRow TaRef TaRefM TaMath5. -/
import Derived.WalkKit
import Derived.Lib.Hide
import Derived.Laws.IdiomStrings
import Derived.Deep.Draws
import Derived.Test.YtnblilonjpfdnaaJaF
section
namespace Go.Proofs.Ytnblilonjpfdnaa.Cm
open Go.RowKit
structure RowAt (w : World) (g : Nat) (xs : List Value) : Prop where
  lt : g < w.heap.size
  cell : ∀ j (h : j < xs.length), w.cell? ⟨g, j, none⟩ = some xs[j]
  free : ∀ j, j < xs.length → w.frozen? ⟨g, j, none⟩ = false
theorem RowAt.under {w w' : World} {g B : Nat} {xs : List Value} (h : RowAt w g xs) (hb : Below B w w') (hg : g < B) : RowAt w' g xs := by
  have := hb.size
  have := h.lt
  refine ⟨by omega, fun j hj => ?_, fun j hj => ?_⟩
  · rw [hb.cell (by simpa using hg)]; exact h.cell j hj
  · rw [hb.frozen (by simpa using hg)]; exact h.free j hj
theorem RowAt.later {w w' : World} {g : Nat} {xs : List Value} (h : RowAt w g xs) (hb : Below w.heap.size w w') : RowAt w' g xs := h.under hb h.lt
theorem RowAt.alloc {w : World} {g : Nat} {xs : List Value} (h : RowAt w g xs) (o : Obj) : RowAt (w.alloc o) g xs := h.later ((Below.refl _ w).alloc (Nat.le_refl _) o)
theorem RowAt.drew {w : World} {g : Nat} {xs : List Value} (h : RowAt w g xs) : RowAt w.drew g xs := ⟨h.lt, h.cell, h.free⟩
theorem RowAt.drewN {w : World} {g n : Nat} {xs : List Value} (h : RowAt w g xs) : RowAt (w.drewN n) g xs := ⟨h.lt, h.cell, h.free⟩
theorem RowAt.set {w : World} {g : Nat} {xs : List Value} (h : RowAt w g xs) (k : Nat) (v : Value) : RowAt (w.setCell ⟨g, k, none⟩ v) g (xs.set k v) := by
  refine ⟨by simpa [World.setCell] using h.lt, fun j hj => ?_, fun j hj => ?_⟩
  · have hj' : j < xs.length := by simpa using hj
    by_cases hk : k = j
    · subst hk
      rw [World.cell?_setCell_same w _ v (h.cell _ hj')]
      simp
    · rw [World.cell?_setCell_other w _ _ v (fun e => hk (congrArg Addr.off e)), h.cell j hj']
      simp [hk]
  · rw [World.frozen?_setCell]
    exact h.free j (by simpa using hj)
theorem RowAt.other {w : World} {g : Nat} {xs : List Value} (h : RowAt w g xs) (a : Addr) (v : Value) (ha : a.block ≠ g) : RowAt (w.setCell a v) g xs := by
  refine ⟨by simpa [World.setCell] using h.lt, fun j hj => ?_, fun j hj => ?_⟩
  · rw [World.cell?_setCell_other w _ _ v (by intro e; subst e; exact ha rfl), h.cell j hj]
  · rw [World.frozen?_setCell]
    exact h.free j hj
theorem row_new (w : World) (cs : List Value) (t : TypeId) : RowAt (w.alloc (.cells cs.toArray t)) w.heap.size cs := by
  refine ⟨by simp, fun j hj => ?_, fun j hj => ?_⟩
  · rw [World.cell?_alloc_at _ _ _ _ rfl]; simp [hj]
  · rw [World.frozen?_alloc_at _ _ _ _ rfl]
/-- The first k changed. -/
def mix {α β : Type} (f g : α → β) (l : List α) (k : Nat) : List β := (l.take k).map f ++ (l.drop k).map g
theorem mix_len {α β : Type} (f g : α → β) (l : List α) (k : Nat) : (mix f g l k).length = l.length := by
  unfold mix; simp; omega
theorem mix_zero {α β : Type} (f g : α → β) (l : List α) : mix f g l 0 = l.map g := by unfold mix; simp
theorem mix_all {α β : Type} (f g : α → β) (l : List α) (k : Nat) (h : l.length ≤ k) : mix f g l k = l.map f := by
  unfold mix; rw [List.take_of_length_le h, List.drop_of_length_le h]; simp
theorem mix_at {α β : Type} (f g : α → β) (l : List α) (k : Nat) (h : k < l.length) : (mix f g l k)[k]'(by rw [mix_len]; exact h) = g l[k] := by
  unfold mix
  rw [List.getElem_append_right (by simp; omega)]
  have e : k - min k l.length = 0 := by omega
  simp [e]
theorem mix_set {α β : Type} (f g : α → β) (l : List α) (k : Nat) (h : k < l.length) : (mix f g l k).set k (f l[k]) = mix f g l (k + 1) := by
  unfold mix
  have e : ((l.take k).map f).length = k := by simp; omega
  rw [List.set_append_right _ _ (by omega), e, Nat.sub_self, List.drop_eq_getElem_cons h, List.map_cons, List.set_cons_zero, List.take_succ_eq_append_getElem h, List.map_append]
  simp
end Go.Proofs.Ytnblilonjpfdnaa.Cm
end
section
namespace Go.Proofs.Ytnblilonjpfdnaa.Tal
open Go.RowKit Cm
theorem low_up (c : UInt8) (h : 128 ≤ c.toNat) : UInt8.ofNat (c.toNat % 128 + 128) = c := by
  have := c.toNat_lt
  rw [show c.toNat % 128 + 128 = c.toNat by omega]; simp
def high (c : UInt8) : UInt8 := UInt8.ofNat (c.toNat % 128 + 128)
theorem map_up (m : Nat) : (Ta.up m).map high = Ta.up m := by
  have h := Ta.up_high m
  have : ∀ c ∈ Ta.up m, high c = c := fun c hc => low_up c (h c hc)
  rw [List.map_congr_left this, List.map_id']
/-- The document's way to a number's bytes. -/
theorem num_ref (n : Nat) (h : ¬ n < 128) : Ta.num n = (Ta.num (n / 128 - 1)).map high ++ [UInt8.ofNat (n % 128)] := by
  unfold Ta.num
  rw [List.map_append, map_up, Ta.up_pos (m := n / 128) (by omega)]
  simp only [List.map_cons, List.map_nil]
  have e : high (UInt8.ofNat ((n / 128 - 1) % 128)) = UInt8.ofNat (128 + (n / 128 - 1) % 128) := by
    unfold high
    have : (UInt8.ofNat ((n / 128 - 1) % 128)).toNat = (n / 128 - 1) % 128 := by simp; omega
    rw [this, show (n / 128 - 1) % 128 % 128 + 128 = 128 + (n / 128 - 1) % 128 by omega]
  rw [e]
theorem num_small (n : Nat) (h : n < 128) : Ta.num n = [UInt8.ofNat n] := by
  unfold Ta.num
  rw [show n / 128 = 0 by omega, show n % 128 = n by omega, Ta.up_zero]; rfl
theorem bytes_conv (w : World) (s : ByteArray) : ∃ cap w1, (convert 9 138 (.string s)).run Try.prog w = .ok (.slice (some ⟨w.heap.size, 0, none⟩) s.size cap) w1 ∧ RowAt w1 w.heap.size (s.data.toList.map bv) ∧ Below w.heap.size w w1 := by
  have hsz : s.data.toList.length = s.size := by simp
  refine ⟨_, _, run_bytes_of_string w _ _ _ s und_str und_bytes und_u8, ⟨by simp, fun j hj => ?_, fun j hj => ?_⟩, (Below.refl _ w).drew.alloc (Nat.le_refl _) _⟩
  · have hj' : j < s.data.size := by simpa using hj
    have h := World.cell?_alloc_mark w.drew (bytesRow s (grownCap w s.size 0 5)) 5 ((bytesRow s (grownCap w s.size 0 5)).size, (bytesRow s (grownCap w s.size 0 5)).size + 1) j
    rw [bytesRow_at s _ j hj'] at h
    refine Eq.trans h ?_
    simp [bv]
  · have hj' : j < s.data.size := by simpa using hj
    have h := World.frozen?_alloc_mark w.drew (bytesRow s (grownCap w s.size 0 5)) 5 (bytesRow s (grownCap w s.size 0 5)).size ((bytesRow s (grownCap w s.size 0 5)).size + 1) j
    refine Eq.trans h ?_
    have : s.data.size ≤ (bytesRow s (grownCap w s.size 0 5)).size := by unfold bytesRow; simp
    rw [decide_eq_false (by omega)]; rfl
/-- 'string(b)' of a row of bytes. -/
theorem row_str {w : World} {g cap : Nat} {l : List UInt8} (h : RowAt w g (l.map bv)) :
    (convert 138 9 (.slice (some ⟨g, 0, none⟩) l.length cap)).run Try.prog w = .ok (.string ⟨l.toArray⟩) w := by
  refine run_convert_bytes_back w _ _ _ ⟨g, 0, none⟩ cap l und_bytes und_u8 und_str ?_
  intro j hj
  have := h.cell j (by simpa using hj)
  rw [Go.WideShapes.add_plain, Nat.zero_add, this]
  simp [bv]
theorem one_str (w : World) (n : Nat) (h : n < 256) : (convert 138 9 (.slice (some ⟨w.heap.size, 0, none⟩) 1 1)).run Try.prog (w.alloc (.cells #[.int .u8 n] 5)) = .ok (.string ⟨#[UInt8.ofNat n]⟩) (w.alloc (.cells #[.int .u8 n] 5)) := by
  have e : (.int .u8 n : Value) = bv (UInt8.ofNat n) := by unfold bv; simp; omega
  have h2 := row_new w [bv (UInt8.ofNat n)] 5
  rw [e]
  exact row_str (l := [UInt8.ofNat n]) h2
theorem cat_mk (x : List UInt8) (s : ByteArray) : (⟨x.toArray⟩ : ByteArray) ++ s = ⟨(x ++ s.data.toList).toArray⟩ := by
  apply ByteArray.ext
  apply Array.ext'
  simp
set_option maxRecDepth 100000 in
set_option maxHeartbeats 800000 in
theorem refNum_c (n : Nat) : ∀ w : World, n < 18446744073709551616 → Calls Try.prog 64 #[.int .u64 n] w (PutRes (Ta.num n) w) := by
  induction n using Nat.strongRecOn with
  | _ n ih =>
    intro w hn
    by_cases hs : n < 128
    · have HN := Lib.hid (num_small n hs)
      have h1 := one_str w n (by omega)
      clear ih
      go_enter Try.func64, Try.ntmps64
      go_wp2_with fail
      go_ret
      rw [HN.out]
      exact ⟨rfl, (Below.refl _ w).alloc (Nat.le_refl _) _⟩
    · have HN := Lib.hid (num_ref n hs)
      have K := Lib.hid (ih (n / 128 - 1) (by omega))
      clear ih
      have e1 : ((n / 128 - 1 : Nat) : Int) = (n : Int) / 128 - 1 := by omega
      have E1 := Lib.hid e1
      clear e1
      have hl := Ta.num_len (n / 128 - 1) (by omega)
      generalize hL : Ta.num (n / 128 - 1) = l at *
      clear hL
      go_enter Try.func64, Try.ntmps64
      go_wp2_with fail
      rw [← E1.out]
      refine (K.out w (by omega)).mono ?_
      rintro e w1 ⟨rfl, b1⟩
      obtain ⟨cap, w2, hcv, hr, b2⟩ := bytes_conv w1 ⟨l.toArray⟩
      have HR := Lib.hid hr
      have B2 := Lib.hid (show Below w.heap.size w w2 from b1.trans (b2.mono b1.size))
      have hg : w.heap.size ≤ w1.heap.size := b1.size
      clear hr b1 b2 K
      go_wp2_with fail
      generalize w1.heap.size = g at *
      clear hcv
      go_loopw [4] (fun s4 wr => ∃ k : Nat, k ≤ l.length ∧ s4 = .int .i64 k ∧ RowAt wr g (mix (fun c => bv (high c)) bv l k) ∧ Below w.heap.size w wr) (fun s4 _ => l.length - (intOf s4).toNat)
      case atStart => exact ⟨0, by omega, rfl, by rw [mix_zero]; exact HR.out, B2.out⟩
      case round =>
        obtain ⟨k, hk, rfl, hrow, hB⟩ := hrel
        have HW := Lib.hid hrow
        have HB := Lib.hid hB
        clear hrow hB HR B2
        by_cases hlt : k < l.length
        · have hb : l[k].toNat < 256 := l[k].toNat_lt
          have hcell := HW.out.cell k (by rw [mix_len]; exact hlt)
          rw [mix_at _ _ _ _ hlt] at hcell
          have hcell2 : wr.cell? ⟨g, k, none⟩ = some (.int .u8 l[k].toNat) := hcell
          have hfree := HW.out.free k (by rw [mix_len]; exact hlt)
          have HV := Lib.hid (show bv (high l[k]) = .int .u8 ((l[k].toNat : Int) % 128 + 128) by unfold bv high; simp; omega)
          clear hcell
          go_wp2_with fail
          exact ⟨⟨k + 1, by omega, by simp, by rw [← HV.out, ← mix_set _ _ _ _ hlt]; exact HW.out.set k _, HB.out.setCell (by exact hg) _⟩, by simp [intOf]; omega⟩
        · have HW2 : RowAt wr g ((l.map high).map bv) := by
            have := HW.out
            rw [mix_all _ _ _ _ (by omega)] at this
            rw [List.map_map]
            exact this
          have hcs := row_str (cap := cap) HW2
          simp only [List.length_map] at hcs
          have h1 := one_str wr (n % 128) (by omega)
          rw [show ((n % 128 : Nat) : Int) = (n : Int) % 128 by omega] at h1
          clear HW2
          go_wp2_with fail
          go_ret
          refine ⟨?_, HB.out.alloc (Nat.le_trans hg (Nat.le_of_lt HW.out.lt)) _⟩
          rw [HN.out, cat_mk]
          rfl
/-- The number of an integer, as the document reckons it. -/
theorem refInt_c (n : Int) (w : World) (h0 : -9223372036854775808 ≤ n) (h1 : n ≤ 9223372036854775807) :
    Calls Try.prog 65 #[.int .i64 n] w (PutRes (Ta.num (zig n)) w) := by
  have K := Lib.hid (refNum_c (zig n) w (zig_lt n h0 h1))
  by_cases hn : n < 0
  · have e : ((zig n : Nat) : Int) = 2 * -(n + 1) + 1 := by unfold zig; rw [if_pos hn]; omega
    rw [e] at K
    clear e
    go_enter Try.func65, Try.ntmps65
    go_wp2_with fail
    refine K.out.mono ?_
    rintro e w1 ⟨rfl, b1⟩
    go_wp2_with fail
    go_ret
    exact ⟨rfl, b1⟩
  · have e : ((zig n : Nat) : Int) = 2 * n := by unfold zig; rw [if_neg hn]; omega
    rw [e] at K
    clear e
    go_enter Try.func65, Try.ntmps65
    go_wp2_with fail
    refine K.out.mono ?_
    rintro e w1 ⟨rfl, b1⟩
    go_wp2_with fail
    go_ret
    exact ⟨rfl, b1⟩
theorem cat_mk2 (x y : List UInt8) : (⟨x.toArray⟩ : ByteArray) ++ (⟨y.toArray⟩ : ByteArray) = ⟨(x ++ y).toArray⟩ := cat_mk x ⟨y.toArray⟩
theorem row_so_far (L : List ByteArray) (k : Nat) (hl : L.length ≤ 1073741824) (ht : total L ≤ 1073741824) : (Ta.num L.length ++ txts (L.take k)).length ≤ 1099511627776 := by
  have h1 := Ta.num_len L.length (by omega)
  have h2 := txts_len (L.take k) (fun x hx => by have := total_mem L x (List.mem_of_mem_take hx); omega)
  have h3 := total_take L k
  simp at h2 ⊢
  omega
end Go.Proofs.Ytnblilonjpfdnaa.Tal
end
section
namespace Go.Proofs.Ytnblilonjpfdnaa.Ta
def isHi (c : UInt8) : Bool := decide (128 ≤ c.toNat)
theorem low_of (n : Nat) : isHi (UInt8.ofNat (n % 128)) = false := by
  unfold isHi
  have : (UInt8.ofNat (n % 128)).toNat = n % 128 := by simp; omega
  rw [this, decide_eq_false (by omega)]
theorem num_hi (m : Nat) (d : List UInt8) : (num m ++ d).takeWhile isHi = up (m / 128) := by
  unfold num
  rw [List.append_assoc, List.takeWhile_append_of_pos (fun c hc => by unfold isHi; exact decide_eq_true (up_high _ c hc))]
  simp [low_of]
theorem num_pre (m x : Nat) (d r : List UInt8) (h : num m ++ d = num x ++ r) : num m = num x := by
  have h1 := num_hi m d
  rw [h, num_hi] at h1
  unfold num at h ⊢
  rw [h1, List.append_assoc, List.append_assoc] at h
  have h2 := List.append_cancel_left h
  simp at h2
  rw [h1, h2.1]
def val (l : List UInt8) : Nat := l.foldl (fun a c => a * 128 + c.toNat % 128 + 1) 0
theorem val_up (m : Nat) : val (up m) = m := by
  induction m using Nat.strongRecOn with
  | _ m ih =>
    by_cases h : m = 0
    · subst h; rw [up_zero]; rfl
    · rw [up_pos (by omega)]
      have := ih ((m - 1) / 128) (by omega)
      unfold val at *
      rw [List.foldl_append, this]
      have ht : (UInt8.ofNat (128 + (m - 1) % 128)).toNat = 128 + (m - 1) % 128 := by simp; omega
      simp only [List.foldl_cons, List.foldl_nil, ht]
      omega
theorem val_num (n : Nat) : val (num n) = n + 1 := by
  unfold num
  have := val_up (n / 128)
  unfold val at *
  rw [List.foldl_append, this]
  have ht : (UInt8.ofNat (n % 128)).toNat = n % 128 := by simp; omega
  simp only [List.foldl_cons, List.foldl_nil, ht]
  omega
theorem num_inj {m x : Nat} (h : num m = num x) : m = x := by
  have h1 := val_num m
  rw [h, val_num] at h1
  omega
theorem take_over (b d : List UInt8) (m : Nat) (hb : num m ++ d = b) (hm : 18446744073709551616 ≤ m) : take 0 b = none := by
  cases h : take 0 b with
  | none => rfl
  | some p =>
    obtain ⟨x, r⟩ := p
    have h1 := take_once _ _ _ _ h
    have h2 := take_bound _ _ _ _ h
    rw [up_zero, List.nil_append, ← hb] at h1
    have := num_inj (num_pre _ _ _ _ h1)
    omega
theorem take_hi (b : List UInt8) (acc j : Nat) (hu : up acc = b.take j) (hj : b.length ≤ j ∨ 10 ≤ j) : take 0 b = none := by
  cases h : take 0 b with
  | none => rfl
  | some p =>
    obtain ⟨x, r⟩ := p
    have h1 := take_once _ _ _ _ h
    have h2 := take_bound _ _ _ _ h
    rw [up_zero, List.nil_append] at h1
    have h3 := num_len x h2.1
    exfalso
    have h4 : UInt8.ofNat (x % 128) ∈ b.take j := by
      rw [← h1]
      rcases hj with hj | hj
      · rw [List.take_of_length_le (by rw [h1]; exact hj)]
        unfold num; simp
      · rw [List.take_append]
        rw [List.take_of_length_le (by omega)]
        unfold num; simp
    rw [← hu] at h4
    have h5 := up_high _ _ h4
    have : (UInt8.ofNat (x % 128)).toNat = x % 128 := by simp; omega
    omega
theorem up_more (b : List UInt8) (acc j : Nat) (hu : up acc = b.take j) (h : j < b.length) (hc : ¬ b[j].toNat < 128) : up (acc * 128 + (b[j].toNat - 128) + 1) = b.take (j + 1) := by
  rw [up_next acc b[j] hc, hu, List.take_succ_eq_append_getElem h]
theorem num_more (b : List UInt8) (acc j : Nat) (hu : up acc = b.take j) (h : j < b.length) (hc : b[j].toNat < 128) : num (acc * 128 + b[j].toNat) = b.take (j + 1) := by
  rw [num_end acc b[j] hc, hu, List.take_succ_eq_append_getElem h]
theorem take_here (b : List UInt8) (acc j : Nat) (hu : up acc = b.take j) (h : j < b.length) (hc : b[j].toNat < 128) (hm : acc * 128 + b[j].toNat < 18446744073709551616) : take 0 b = some (acc * 128 + b[j].toNat, b.drop (j + 1)) := by
  have h1 := num_more b acc j hu h hc
  have h2 := take_back (acc * 128 + b[j].toNat) (b.drop (j + 1)) hm
  rw [h1, List.take_append_drop] at h2
  exact h2
theorem take_not (b : List UInt8) (acc j : Nat) (hu : up acc = b.take j) (h : j < b.length) (hc : b[j].toNat < 128) (hm : ¬ acc * 128 + b[j].toNat < 18446744073709551616) : take 0 b = none := by
  have h1 := num_more b acc j hu h hc
  exact take_over b (b.drop (j + 1)) (acc * 128 + b[j].toNat) (by rw [h1, List.take_append_drop]) (by omega)
end Go.Proofs.Ytnblilonjpfdnaa.Ta
end
section
namespace Go.Proofs.Ytnblilonjpfdnaa.Tal
open Go.RowKit
def txtsL : List (List UInt8) → List UInt8
  | [] => []
  | s :: L => txt s ++ txtsL L
def rowL (L : List (List UInt8)) : List UInt8 := Ta.num L.length ++ txtsL L
def bas (L : List (List UInt8)) : List ByteArray := L.map fun x => ⟨x.toArray⟩
theorem txts_bas (L : List (List UInt8)) : txts (bas L) = txtsL L := by
  induction L with
  | nil => rfl
  | cons s L ih => show txt s ++ txts (bas L) = _; rw [ih]; rfl
theorem row_bas (L : List (List UInt8)) : row (bas L) = rowL L := by
  unfold row rowL; rw [txts_bas]; simp [bas]
theorem txtsL_append (L M : List (List UInt8)) : txtsL (L ++ M) = txtsL L ++ txtsL M := by
  induction L with
  | nil => rfl
  | cons s L ih => simp [txtsL, ih]
theorem takeText_once (b x r : List UInt8) (h : Ta.takeText b = some (x, r)) : txt x ++ r = b := by
  unfold Ta.takeText at h
  split at h
  · rename_i n r0 h0
    have h1 := Ta.take_once _ _ _ _ h0
    split at h
    · rename_i hn
      simp only [Option.some.injEq, Prod.mk.injEq] at h
      obtain ⟨rfl, rfl⟩ := h
      rw [Ta.up_zero, List.nil_append] at h1
      rw [← h1]
      unfold txt
      rw [show (r0.take n).length = n by simp; omega, List.append_assoc, List.take_append_drop]
    · simp at h
  · simp at h
theorem takeN_once (n : Nat) : ∀ (acc : List (List UInt8)) (b : List UInt8) (l : List (List UInt8)) (r : List UInt8), takeN n acc b = some (l, r) → txtsL l ++ r = txtsL acc ++ b ∧ l.length = acc.length + n := by
  induction n with
  | zero => intro acc b l r h; simp [takeN] at h; obtain ⟨rfl, rfl⟩ := h; simp
  | succ n ih =>
    intro acc b l r h
    unfold takeN at h
    split at h
    · simp at h
    · rename_i x r0 h0
      have h1 := takeText_once _ _ _ h0
      have h2 := ih _ _ _ _ h
      rw [txtsL_append] at h2
      refine ⟨by rw [h2.1, ← h1]; simp [txtsL], by rw [h2.2]; simp; omega⟩
theorem takeRow_once (b : List UInt8) (l : List (List UInt8)) (r : List UInt8) (h : takeRow b = some (l, r)) : rowL l ++ r = b ∧ l.length ≤ b.length := by
  unfold takeRow at h
  split at h
  · simp at h
  · rename_i n r0 h0
    have h1 := Ta.take_once _ _ _ _ h0
    have h3 := Ta.take_bound _ _ _ _ h0
    split at h
    · rename_i hn
      have h2 := takeN_once _ _ _ _ _ h
      rw [Ta.up_zero, List.nil_append] at h1
      simp [txtsL] at h2
      refine ⟨?_, by omega⟩
      rw [← h1, ← h2.1]
      unfold rowL
      rw [h2.2]; simp
    · simp at h
theorem takeText_back (x r : List UInt8) (h : x.length < 18446744073709551616) : Ta.takeText (txt x ++ r) = some (x, r) := by
  unfold Ta.takeText txt
  rw [List.append_assoc, Ta.take_back _ _ h]
  simp
theorem takeN_back (L : List (List UInt8)) (hL : ∀ x ∈ L, x.length < 18446744073709551616) : ∀ (acc : List (List UInt8)) (r : List UInt8), takeN L.length acc (txtsL L ++ r) = some (acc ++ L, r) := by
  induction L with
  | nil => intro acc r; simp [takeN, txtsL]
  | cons x L ih =>
    intro acc r
    have h1 := takeText_back x (txtsL L ++ r) (hL x (by simp))
    show takeN (L.length + 1) acc (txt x ++ txtsL L ++ r) = _
    rw [List.append_assoc]
    unfold takeN
    rw [h1]
    show takeN L.length (acc ++ [x]) (txtsL L ++ r) = _
    rw [ih (fun y hy => hL y (by simp [hy]))]
    simp
theorem txtsL_len (L : List (List UInt8)) : L.length ≤ (txtsL L).length := by
  induction L with
  | nil => simp [txtsL]
  | cons x L ih =>
    have : 1 ≤ (txt x).length := by unfold txt Ta.num; simp; omega
    simp [txtsL]; omega
theorem takeRow_back (L : List (List UInt8)) (r : List UInt8) (hL : ∀ x ∈ L, x.length < 18446744073709551616) (hl : L.length < 18446744073709551616) : takeRow (rowL L ++ r) = some (L, r) := by
  unfold takeRow rowL
  rw [List.append_assoc, Ta.take_back _ _ hl]
  have := txtsL_len L
  simp only
  rw [if_pos (by simp; omega), takeN_back L hL]
  simp
end Go.Proofs.Ytnblilonjpfdnaa.Tal
end
