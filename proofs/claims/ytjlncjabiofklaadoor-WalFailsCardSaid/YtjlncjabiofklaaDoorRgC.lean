/- Joined: TsRef TsRefM TsRef2 TsMath5 TsRef3 TsRef4. -/
import Derived.Test.YtjlncjabiofklaaDoorRgB
import Derived.Test.YtjlncjabiofklaaDoorCmRow
import Derived.Deep.RegionHeld3
section
namespace Go.Proofs.YtjlncjabiofklaaDoor.Tal
open Go.RowKit Cm
theorem low_up (c : UInt8) (h : 128 ≤ c.toNat) : UInt8.ofNat (c.toNat % 128 + 128) = c := by
  have := c.toNat_lt
  rw [show c.toNat % 128 + 128 = c.toNat by omega]; simp
def high (c : UInt8) : UInt8 := UInt8.ofNat (c.toNat % 128 + 128)
theorem map_up (m : Nat) : (Ta.up m).map high = Ta.up m := by
  have h := Ta.up_high m
  have : ∀ c ∈ Ta.up m, high c = c := fun c hc => low_up c (h c hc)
  rw [List.map_congr_left this, List.map_id']
/-- The document's way to a number's bytes. -/
theorem num_ref (n : Nat) (h : ¬ n < 128) : Ta.num n = (Ta.num (n / 128 - 1)).map high ++ [UInt8.ofNat (n % 128)] := by
  unfold Ta.num
  rw [List.map_append, map_up, Ta.up_pos (m := n / 128) (by omega)]
  simp only [List.map_cons, List.map_nil]
  have e : high (UInt8.ofNat ((n / 128 - 1) % 128)) = UInt8.ofNat (128 + (n / 128 - 1) % 128) := by
    unfold high
    have : (UInt8.ofNat ((n / 128 - 1) % 128)).toNat = (n / 128 - 1) % 128 := by simp; omega
    rw [this, show (n / 128 - 1) % 128 % 128 + 128 = 128 + (n / 128 - 1) % 128 by omega]
  rw [e]
theorem num_small (n : Nat) (h : n < 128) : Ta.num n = [UInt8.ofNat n] := by
  unfold Ta.num
  rw [show n / 128 = 0 by omega, show n % 128 = n by omega, Ta.up_zero]; rfl
theorem bytes_conv (w : World) (s : ByteArray) : ∃ cap w1, (convert 9 71 (.string s)).run Tryd.prog w = .ok (.slice (some ⟨w.heap.size, 0, none⟩) s.size cap) w1 ∧ RowAt w1 w.heap.size (s.data.toList.map bv) ∧ Below w.heap.size w w1 := by
  have hsz : s.data.toList.length = s.size := by simp
  refine ⟨_, _, run_bytes_of_string w _ _ _ s und_str und_bytes und_u8, ⟨by simp, fun j hj => ?_, fun j hj => ?_⟩, (Below.refl _ w).drew.alloc (Nat.le_refl _) _⟩
  · have hj' : j < s.data.size := by simpa using hj
    have h := World.cell?_alloc_mark w.drew (bytesRow s (grownCap w s.size 0 5)) 5 ((bytesRow s (grownCap w s.size 0 5)).size, (bytesRow s (grownCap w s.size 0 5)).size + 1) j
    rw [bytesRow_at s _ j hj'] at h
    refine Eq.trans h ?_
    simp [bv]
  · have hj' : j < s.data.size := by simpa using hj
    have h := World.frozen?_alloc_mark w.drew (bytesRow s (grownCap w s.size 0 5)) 5 (bytesRow s (grownCap w s.size 0 5)).size ((bytesRow s (grownCap w s.size 0 5)).size + 1) j
    refine Eq.trans h ?_
    have : s.data.size ≤ (bytesRow s (grownCap w s.size 0 5)).size := by unfold bytesRow; simp
    rw [decide_eq_false (by omega)]; rfl
/-- 'string(b)' of a row of bytes. -/
theorem row_str {w : World} {g cap : Nat} {l : List UInt8} (h : RowAt w g (l.map bv)) :
    (convert 71 9 (.slice (some ⟨g, 0, none⟩) l.length cap)).run Tryd.prog w = .ok (.string ⟨l.toArray⟩) w := by
  refine run_convert_bytes_back w _ _ _ ⟨g, 0, none⟩ cap l und_bytes und_u8 und_str ?_
  intro j hj
  have := h.cell j (by simpa using hj)
  rw [Go.WideShapes.add_plain, Nat.zero_add, this]
  simp [bv]
theorem one_str (w : World) (n : Nat) (h : n < 256) : (convert 71 9 (.slice (some ⟨w.heap.size, 0, none⟩) 1 1)).run Tryd.prog (w.alloc (.cells #[.int .u8 n] 5)) = .ok (.string ⟨#[UInt8.ofNat n]⟩) (w.alloc (.cells #[.int .u8 n] 5)) := by
  have e : (.int .u8 n : Value) = bv (UInt8.ofNat n) := by unfold bv; simp; omega
  have h2 := row_new w [bv (UInt8.ofNat n)] 5
  rw [e]
  exact row_str (l := [UInt8.ofNat n]) h2
theorem cat_mk (x : List UInt8) (s : ByteArray) : (⟨x.toArray⟩ : ByteArray) ++ s = ⟨(x ++ s.data.toList).toArray⟩ := by
  apply ByteArray.ext
  apply Array.ext'
  simp
theorem cat_mk2 (x y : List UInt8) : (⟨x.toArray⟩ : ByteArray) ++ (⟨y.toArray⟩ : ByteArray) = ⟨(x ++ y).toArray⟩ := cat_mk x ⟨y.toArray⟩
theorem row_so_far (L : List ByteArray) (k : Nat) (hl : L.length ≤ 1073741824) (ht : total L ≤ 1073741824) : (Ta.num L.length ++ txts (L.take k)).length ≤ 1099511627776 := by
  have h1 := Ta.num_len L.length (by omega)
  have h2 := txts_len (L.take k) (fun x hx => by have := total_mem L x (List.mem_of_mem_take hx); omega)
  have h3 := total_take L k
  simp at h2 ⊢
  omega
end Go.Proofs.YtjlncjabiofklaaDoor.Tal
end
section
namespace Go.Proofs.YtjlncjabiofklaaDoor.Ta
def isHi (c : UInt8) : Bool := decide (128 ≤ c.toNat)
theorem low_of (n : Nat) : isHi (UInt8.ofNat (n % 128)) = false := by
  unfold isHi
  have : (UInt8.ofNat (n % 128)).toNat = n % 128 := by simp; omega
  rw [this, decide_eq_false (by omega)]
theorem num_hi (m : Nat) (d : List UInt8) : (num m ++ d).takeWhile isHi = up (m / 128) := by
  unfold num
  rw [List.append_assoc, List.takeWhile_append_of_pos (fun c hc => by unfold isHi; exact decide_eq_true (up_high _ c hc))]
  simp [low_of]
theorem num_pre (m x : Nat) (d r : List UInt8) (h : num m ++ d = num x ++ r) : num m = num x := by
  have h1 := num_hi m d
  rw [h, num_hi] at h1
  unfold num at h ⊢
  rw [h1, List.append_assoc, List.append_assoc] at h
  have h2 := List.append_cancel_left h
  simp at h2
  rw [h1, h2.1]
def val (l : List UInt8) : Nat := l.foldl (fun a c => a * 128 + c.toNat % 128 + 1) 0
theorem val_up (m : Nat) : val (up m) = m := by
  induction m using Nat.strongRecOn with
  | _ m ih =>
    by_cases h : m = 0
    · subst h; rw [up_zero]; rfl
    · rw [up_pos (by omega)]
      have := ih ((m - 1) / 128) (by omega)
      unfold val at *
      rw [List.foldl_append, this]
      have ht : (UInt8.ofNat (128 + (m - 1) % 128)).toNat = 128 + (m - 1) % 128 := by simp; omega
      simp only [List.foldl_cons, List.foldl_nil, ht]
      omega
theorem val_num (n : Nat) : val (num n) = n + 1 := by
  unfold num
  have := val_up (n / 128)
  unfold val at *
  rw [List.foldl_append, this]
  have ht : (UInt8.ofNat (n % 128)).toNat = n % 128 := by simp; omega
  simp only [List.foldl_cons, List.foldl_nil, ht]
  omega
theorem num_inj {m x : Nat} (h : num m = num x) : m = x := by
  have h1 := val_num m
  rw [h, val_num] at h1
  omega
theorem take_over (b d : List UInt8) (m : Nat) (hb : num m ++ d = b) (hm : 18446744073709551616 ≤ m) : take 0 b = none := by
  cases h : take 0 b with
  | none => rfl
  | some p =>
    obtain ⟨x, r⟩ := p
    have h1 := take_once _ _ _ _ h
    have h2 := take_bound _ _ _ _ h
    rw [up_zero, List.nil_append, ← hb] at h1
    have := num_inj (num_pre _ _ _ _ h1)
    omega
theorem take_hi (b : List UInt8) (acc j : Nat) (hu : up acc = b.take j) (hj : b.length ≤ j ∨ 10 ≤ j) : take 0 b = none := by
  cases h : take 0 b with
  | none => rfl
  | some p =>
    obtain ⟨x, r⟩ := p
    have h1 := take_once _ _ _ _ h
    have h2 := take_bound _ _ _ _ h
    rw [up_zero, List.nil_append] at h1
    have h3 := num_len x h2.1
    exfalso
    have h4 : UInt8.ofNat (x % 128) ∈ b.take j := by
      rw [← h1]
      rcases hj with hj | hj
      · rw [List.take_of_length_le (by rw [h1]; exact hj)]
        unfold num; simp
      · rw [List.take_append]
        rw [List.take_of_length_le (by omega)]
        unfold num; simp
    rw [← hu] at h4
    have h5 := up_high _ _ h4
    have : (UInt8.ofNat (x % 128)).toNat = x % 128 := by simp; omega
    omega
theorem up_more (b : List UInt8) (acc j : Nat) (hu : up acc = b.take j) (h : j < b.length) (hc : ¬ b[j].toNat < 128) : up (acc * 128 + (b[j].toNat - 128) + 1) = b.take (j + 1) := by
  rw [up_next acc b[j] hc, hu, List.take_succ_eq_append_getElem h]
theorem num_more (b : List UInt8) (acc j : Nat) (hu : up acc = b.take j) (h : j < b.length) (hc : b[j].toNat < 128) : num (acc * 128 + b[j].toNat) = b.take (j + 1) := by
  rw [num_end acc b[j] hc, hu, List.take_succ_eq_append_getElem h]
theorem take_here (b : List UInt8) (acc j : Nat) (hu : up acc = b.take j) (h : j < b.length) (hc : b[j].toNat < 128) (hm : acc * 128 + b[j].toNat < 18446744073709551616) : take 0 b = some (acc * 128 + b[j].toNat, b.drop (j + 1)) := by
  have h1 := num_more b acc j hu h hc
  have h2 := take_back (acc * 128 + b[j].toNat) (b.drop (j + 1)) hm
  rw [h1, List.take_append_drop] at h2
  exact h2
theorem take_not (b : List UInt8) (acc j : Nat) (hu : up acc = b.take j) (h : j < b.length) (hc : b[j].toNat < 128) (hm : ¬ acc * 128 + b[j].toNat < 18446744073709551616) : take 0 b = none := by
  have h1 := num_more b acc j hu h hc
  exact take_over b (b.drop (j + 1)) (acc * 128 + b[j].toNat) (by rw [h1, List.take_append_drop]) (by omega)
end Go.Proofs.YtjlncjabiofklaaDoor.Ta
end
section
namespace Go.Proofs.YtjlncjabiofklaaDoor.Tal
open Go.RowKit Cm
/-- How far the document's way has come: j bytes, all high; what they say; what the register holds. -/
def Far (b : List UInt8) (j acc : Nat) (nv : Nat) : Prop := Ta.up acc = b.take j ∧ nv < 18446744073709551616 ∧ (j = 0 → nv = 0 ∧ acc = 0) ∧ (j ≠ 0 → acc % 18446744073709551616 = (nv + 1) % 18446744073709551616)
def nextN (j nv c : Nat) : Nat := if j = 0 then c % 128 else (128 * ((nv + 1) % 18446744073709551616) % 18446744073709551616 + c % 128) % 18446744073709551616
theorem nextN_0 (j nv c : Nat) (h : j = 0) : nextN j nv c = c % 128 := by unfold nextN; rw [if_pos h]
theorem nextN_1 (j nv c : Nat) (h : j ≠ 0) : ((nextN j nv c : Nat) : Int) = IntKind.u64.wrap (IntKind.u64.wrap (128 * IntKind.u64.wrap ((nv : Int) + 1)) + (c : Int) % 128) := by
  unfold nextN; rw [if_neg h, IntKind.wrap_u64, IntKind.wrap_u64, IntKind.wrap_u64]; omega
theorem nextN_lt (j nv c : Nat) : nextN j nv c < 18446744073709551616 := by unfold nextN; split <;> omega
theorem far_next (b : List UInt8) (j acc nv : Nat) (h : Far b j acc nv) (hj : j < b.length) (hc : ¬ b[j].toNat < 128) : Far b (j + 1) (acc * 128 + (b[j].toNat - 128) + 1) (nextN j nv b[j].toNat) := by
  obtain ⟨h1, h2, h3, h4⟩ := h
  have := b[j].toNat_lt
  refine ⟨Ta.up_more b acc j h1 hj hc, nextN_lt _ _ _, fun e => by omega, fun _ => ?_⟩
  unfold nextN
  split
  · rename_i h0
    have := h3 h0
    omega
  · rename_i h0
    have := h4 h0
    omega
theorem far_low (b : List UInt8) (j acc nv : Nat) (h : Far b j acc nv) (hc : b[j]!.toNat < 128) : nextN j nv b[j]!.toNat = (acc * 128 + b[j]!.toNat) % 18446744073709551616 := by
  obtain ⟨h1, h2, h3, h4⟩ := h
  unfold nextN
  split
  · rename_i h0
    have := h3 h0
    omega
  · rename_i h0
    have := h4 h0
    omega
/-- What the document's way does at a low byte: it holds the number's bytes against those that it read. -/
theorem low_yes (b : List UInt8) (j nv c : Nat) (hN : Ta.num (nextN j nv c) = b.take (j + 1)) : Ta.take 0 b = some (nextN j nv c, b.drop (j + 1)) := by
  have h2 := Ta.take_back (nextN j nv c) (b.drop (j + 1)) (nextN_lt _ _ _)
  rw [hN, List.take_append_drop] at h2
  exact h2
theorem low_no (b : List UInt8) (j acc nv : Nat) {c' : UInt8} (h : Far b j acc nv) (hj : j < b.length) (e : b[j] = c') (hc : c'.toNat < 128) (hN : Ta.num (nextN j nv c'.toNat) ≠ b.take (j + 1)) : Ta.take 0 b = none := by
  subst e
  refine Ta.take_not b acc j h.1 hj hc (fun hm => hN ?_)
  have h1 := far_low b j acc nv h (by rw [getElem!_pos b j hj]; exact hc)
  rw [getElem!_pos b j hj] at h1
  rw [h1, Nat.mod_eq_of_lt hm]
  exact Ta.num_more b acc j h.1 hj hc
theorem str_eq (N : Nat) (s : ByteArray) (k : Nat) (h : Ta.num N = s.data.toList.take k) : (⟨(Ta.num N).toArray⟩ : ByteArray) = s.extract 0 k := by
  rw [h]
  apply ByteArray.ext
  apply Array.ext'
  simp
theorem ext_list (s : ByteArray) (k : Nat) : (s.extract 0 k).toList = s.data.toList.take k := by
  have e : s.extract 0 k = ⟨(s.data.toList.take k).toArray⟩ := by
    apply ByteArray.ext
    apply Array.ext'
    simp
  rw [e]
  exact ByteArray.toList_mk _
theorem str_neq (N : Nat) (s : ByteArray) (k : Nat) (h : Ta.num N ≠ s.data.toList.take k) : (Ta.num N == (s.extract 0 k).toList) = false := by
  rw [ext_list]
  exact beq_eq_false_iff_ne.2 h
theorem drop_str (s : ByteArray) (k : Nat) : s.extract k s.size = ⟨(s.data.toList.drop k).toArray⟩ := ext_drop s k
end Go.Proofs.YtjlncjabiofklaaDoor.Tal
end
section
namespace Go.Proofs.YtjlncjabiofklaaDoor.Tal
open Go.RowKit
def txtsL : List (List UInt8) → List UInt8
  | [] => []
  | s :: L => txt s ++ txtsL L
def rowL (L : List (List UInt8)) : List UInt8 := Ta.num L.length ++ txtsL L
def bas (L : List (List UInt8)) : List ByteArray := L.map fun x => ⟨x.toArray⟩
theorem txts_bas (L : List (List UInt8)) : txts (bas L) = txtsL L := by
  induction L with
  | nil => rfl
  | cons s L ih => show txt s ++ txts (bas L) = _; rw [ih]; rfl
theorem row_bas (L : List (List UInt8)) : row (bas L) = rowL L := by
  unfold row rowL; rw [txts_bas]; simp [bas]
theorem txtsL_append (L M : List (List UInt8)) : txtsL (L ++ M) = txtsL L ++ txtsL M := by
  induction L with
  | nil => rfl
  | cons s L ih => simp [txtsL, ih]
theorem takeText_once (b x r : List UInt8) (h : Ta.takeText b = some (x, r)) : txt x ++ r = b := by
  unfold Ta.takeText at h
  split at h
  · rename_i n r0 h0
    have h1 := Ta.take_once _ _ _ _ h0
    split at h
    · rename_i hn
      simp only [Option.some.injEq, Prod.mk.injEq] at h
      obtain ⟨rfl, rfl⟩ := h
      rw [Ta.up_zero, List.nil_append] at h1
      rw [← h1]
      unfold txt
      rw [show (r0.take n).length = n by simp; omega, List.append_assoc, List.take_append_drop]
    · simp at h
  · simp at h
theorem takeN_once (n : Nat) : ∀ (acc : List (List UInt8)) (b : List UInt8) (l : List (List UInt8)) (r : List UInt8), takeN n acc b = some (l, r) → txtsL l ++ r = txtsL acc ++ b ∧ l.length = acc.length + n := by
  induction n with
  | zero => intro acc b l r h; simp [takeN] at h; obtain ⟨rfl, rfl⟩ := h; simp
  | succ n ih =>
    intro acc b l r h
    unfold takeN at h
    split at h
    · simp at h
    · rename_i x r0 h0
      have h1 := takeText_once _ _ _ h0
      have h2 := ih _ _ _ _ h
      rw [txtsL_append] at h2
      refine ⟨by rw [h2.1, ← h1]; simp [txtsL], by rw [h2.2]; simp; omega⟩
theorem takeRow_once (b : List UInt8) (l : List (List UInt8)) (r : List UInt8) (h : takeRow b = some (l, r)) : rowL l ++ r = b ∧ l.length ≤ b.length := by
  unfold takeRow at h
  split at h
  · simp at h
  · rename_i n r0 h0
    have h1 := Ta.take_once _ _ _ _ h0
    have h3 := Ta.take_bound _ _ _ _ h0
    split at h
    · rename_i hn
      have h2 := takeN_once _ _ _ _ _ h
      rw [Ta.up_zero, List.nil_append] at h1
      simp [txtsL] at h2
      refine ⟨?_, by omega⟩
      rw [← h1, ← h2.1]
      unfold rowL
      rw [h2.2]; simp
    · simp at h
theorem takeText_back (x r : List UInt8) (h : x.length < 18446744073709551616) : Ta.takeText (txt x ++ r) = some (x, r) := by
  unfold Ta.takeText txt
  rw [List.append_assoc, Ta.take_back _ _ h]
  simp
theorem takeN_back (L : List (List UInt8)) (hL : ∀ x ∈ L, x.length < 18446744073709551616) : ∀ (acc : List (List UInt8)) (r : List UInt8), takeN L.length acc (txtsL L ++ r) = some (acc ++ L, r) := by
  induction L with
  | nil => intro acc r; simp [takeN, txtsL]
  | cons x L ih =>
    intro acc r
    have h1 := takeText_back x (txtsL L ++ r) (hL x (by simp))
    show takeN (L.length + 1) acc (txt x ++ txtsL L ++ r) = _
    rw [List.append_assoc]
    unfold takeN
    rw [h1]
    show takeN L.length (acc ++ [x]) (txtsL L ++ r) = _
    rw [ih (fun y hy => hL y (by simp [hy]))]
    simp
theorem txtsL_len (L : List (List UInt8)) : L.length ≤ (txtsL L).length := by
  induction L with
  | nil => simp [txtsL]
  | cons x L ih =>
    have : 1 ≤ (txt x).length := by unfold txt Ta.num; simp; omega
    simp [txtsL]; omega
theorem takeRow_back (L : List (List UInt8)) (r : List UInt8) (hL : ∀ x ∈ L, x.length < 18446744073709551616) (hl : L.length < 18446744073709551616) : takeRow (rowL L ++ r) = some (L, r) := by
  unfold takeRow rowL
  rw [List.append_assoc, Ta.take_back _ _ hl]
  have := txtsL_len L
  simp only
  rw [if_pos (by simp; omega), takeN_back L hL]
  simp
end Go.Proofs.YtjlncjabiofklaaDoor.Tal
end
section
namespace Go.Proofs.YtjlncjabiofklaaDoor.Tal
open Go.RowKit Cm
end Go.Proofs.YtjlncjabiofklaaDoor.Tal
end
section
namespace Go.Proofs.YtjlncjabiofklaaDoor.Tal
open Go.RowKit Cm
theorem takeN_len (n : Nat) : ∀ (acc : List (List UInt8)) (b : List UInt8) (x : List (List UInt8) × List UInt8), takeN n acc b = some x → n ≤ b.length := by
  induction n with
  | zero => intro acc b x h; omega
  | succ n ih =>
    intro acc b x h
    unfold takeN at h
    split at h
    · simp at h
    · rename_i y r h0
      have h1 := takeText_len _ _ _ h0
      have h2 := ih _ _ _ h
      omega
theorem takeRow_n (b r : List UInt8) (n : Nat) (h : Ta.take 0 b = some (n, r)) : takeRow b = takeN n [] r := by
  unfold takeRow
  rw [h]
  simp only
  split
  · rfl
  · rename_i hn
    cases h2 : takeN n [] r with
    | none => rfl
    | some x => exact absurd (takeN_len _ _ _ _ h2) hn
def msr : Value → Value → Nat
  | .string r, .bool true => r.size + 1
  | _, _ => 0
def Step (n : Nat) (r0 r : List UInt8) (acc : List (List UInt8)) (ok : Bool) : Prop :=
  acc.length + r.length ≤ r0.length + 1 ∧ (ok = true → acc.length ≤ n ∧ acc.length + r.length ≤ r0.length ∧ takeN n [] r0 = takeN (n - acc.length) acc r) ∧ (ok = false → takeN n [] r0 = none)
theorem step_some {n : Nat} {r0 r x r' : List UInt8} {acc : List (List UInt8)} (h : Step n r0 r acc true) (hlt : acc.length < n) (hx : Ta.takeText r = some (x, r')) : Step n r0 r' (acc ++ [x]) true := by
  have h1 := takeText_len _ _ _ hx
  obtain ⟨_, h3, _⟩ := h
  obtain ⟨_, h5, h6⟩ := h3 rfl
  refine ⟨by simp; omega, fun _ => ⟨by simp; omega, by simp; omega, ?_⟩, fun e => by cases e⟩
  rw [h6, show n - acc.length = (n - (acc ++ [x]).length) + 1 by simp; omega, takeN, hx]
theorem step_none {n : Nat} {r0 r : List UInt8} {acc : List (List UInt8)} (h : Step n r0 r acc true) (hlt : acc.length < n) (hx : Ta.takeText r = none) : Step n r0 [] (acc ++ [[]]) false := by
  obtain ⟨_, h3, _⟩ := h
  obtain ⟨_, h5, h6⟩ := h3 rfl
  refine ⟨by simp; omega, fun e => (by cases e), fun _ => ?_⟩
  rw [h6, show n - acc.length = (n - acc.length - 1) + 1 by omega, takeN, hx]
theorem step_end {n : Nat} {r0 r : List UInt8} {acc : List (List UInt8)} (h : Step n r0 r acc true) (hge : ¬ acc.length < n) : takeN n [] r0 = some (acc, r) := by
  obtain ⟨_, h3, _⟩ := h
  obtain ⟨h4, h5, h6⟩ := h3 rfl
  rw [h6, show n - acc.length = 0 by omega, takeN]
theorem own_shape {w : World} {base e size n : Nat} {v : Value} {xs : List Value} (h : w.ownsRow base e size v n xs) : ∃ a cap, v = .slice a n cap := by
  rcases h.2 with ⟨rfl, rfl⟩ | ⟨g, cap, _, rfl, _⟩
  · exact ⟨none, 0, rfl⟩
  · exact ⟨_, cap, rfl⟩
end Go.Proofs.YtjlncjabiofklaaDoor.Tal
end
