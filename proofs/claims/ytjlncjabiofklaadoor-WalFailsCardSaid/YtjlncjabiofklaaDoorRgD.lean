/- Joined: LfRef LfRef2 LfRead LfPut. -/
import Derived.Test.YtjlncjabiofklaaDoorRows
import Derived.Test.YtjlncjabiofklaaDoorRgA
import Derived.Test.YtjlncjabiofklaaDoorCmRow
import Derived.WalkSpells
import Derived.WalkLawsBesides
import Derived.BigQuiet
import Derived.Deep.QuietTactic
import Derived.Deep.RegionHeld3
import Derived.Deep.LoopGhost
import Derived.Lib.EndianBits
import Derived.Laws.BitsAllLaws
import Derived.Lib.LazyBuf
section
namespace Go.Proofs.YtjlncjabiofklaaDoor.Le
open Go.RowKit Cm
def bv (c : UInt8) : Value := .int .u8 c.toNat
theorem und_bytes : Tryd.prog.underlying 71 = some (.slice 5) := by kernel_rfl
theorem und_u8 : Tryd.prog.underlying 5 = some (.int .u8) := by kernel_rfl
theorem und_str : Tryd.prog.underlying 9 = some .string := by kernel_rfl
theorem row_str {w : World} {g cap : Nat} {l : List UInt8} (h : RowAt w g (l.map bv)) :
    (convert 71 9 (.slice (some ⟨g, 0, none⟩) l.length cap)).run Tryd.prog w = .ok (.string ⟨l.toArray⟩) w := by
  refine run_convert_bytes_back w _ _ _ ⟨g, 0, none⟩ cap l und_bytes und_u8 und_str ?_
  intro j hj
  have := h.cell j (by simpa using hj)
  rw [Go.WideShapes.add_plain, Nat.zero_add, this]
  simp [bv]
theorem one_str (w : World) (n : Nat) (h : n < 256) : (convert 71 9 (.slice (some ⟨w.heap.size, 0, none⟩) 1 1)).run Tryd.prog (w.alloc (.cells #[.int .u8 n] 5)) = .ok (.string ⟨#[UInt8.ofNat n]⟩) (w.alloc (.cells #[.int .u8 n] 5)) := by
  have e : (.int .u8 n : Value) = bv (UInt8.ofNat n) := by unfold bv; simp; omega
  have h2 := row_new w [bv (UInt8.ofNat n)] 5
  rw [e]
  exact row_str (l := [UInt8.ofNat n]) h2
def szOf : Value → Nat | .string s => s.size | _ => 0
def StrRes (l : List UInt8) (w : World) (e : Ending) (w' : World) : Prop := e = .returned (.string ⟨l.toArray⟩) ∧ Below w.heap.size w w'
theorem cat_mk2 (x y : List UInt8) : (⟨x.toArray⟩ : ByteArray) ++ (⟨y.toArray⟩ : ByteArray) = ⟨(x ++ y).toArray⟩ := by
  apply ByteArray.ext
  apply Array.ext'
  simp
theorem one_cat (c : UInt8) (y : List UInt8) : (⟨#[c]⟩ : ByteArray) ++ (⟨y.toArray⟩ : ByteArray) = ⟨(c :: y).toArray⟩ := cat_mk2 [c] y
theorem be_take (i : Nat) (m : Nat) (s : List UInt8) (n : Nat) (h : Lf.be 8 n = Lf.be (8 - i) m ++ s) (hi : i < 8) : Lf.be 8 n = Lf.be (8 - (i + 1)) (m / 256) ++ (UInt8.ofNat (m % 256) :: s) := by
  rw [h, show 8 - i = (8 - (i + 1)) + 1 by omega]
  show (Lf.be (8 - (i + 1)) (m / 256) ++ [UInt8.ofNat (m % 256)]) ++ s = _
  rw [List.append_assoc]; rfl
theorem ext_one (s : ByteArray) (k : Nat) (h : k < s.size) : s.extract k (k + 1) = ⟨#[s[k]]⟩ := by
  apply ByteArray.ext
  apply Array.ext'
  simp
  rw [List.drop_eq_getElem_cons (by simpa using h)]
  simp
  rfl
theorem zero_cat (l : List UInt8) (k : Nat) : (⟨(l ++ List.replicate k 0).toArray⟩ : ByteArray) ++ (⟨#[0]⟩ : ByteArray) = ⟨(l ++ List.replicate (k + 1) 0).toArray⟩ := by
  have h := cat_mk2 (l ++ List.replicate k 0) [0]
  rw [List.append_assoc] at h
  have e : List.replicate k (0 : UInt8) ++ [0] = List.replicate (k + 1) 0 := by rw [List.replicate_succ']
  rw [e] at h
  exact h
theorem num_take (l : List UInt8) (k : Nat) (h : k < l.length) : Lf.num (l.take (k + 1)) = Lf.num (l.take k) * 256 + l[k].toNat := by
  rw [List.take_succ_eq_append_getElem h, Lf.num_snoc]
theorem num_small (l : List UInt8) (k : Nat) (hl : l.length = 8) (h : k < 8) : Lf.num (l.take k) < 72057594037927936 := by
  have h1 := Lf.num_lt k (l.take k) (by simp; omega)
  have h2 : 256 ^ k ≤ 256 ^ 7 := Nat.pow_le_pow_right (by decide) (by omega)
  have h3 : 256 ^ 7 = 72057594037927936 := by decide
  omega
end Go.Proofs.YtjlncjabiofklaaDoor.Le
end
section
namespace Go.Proofs.YtjlncjabiofklaaDoor.Le
open Go.RowKit Cm
theorem then_below {a b c : World} (h : Below a.heap.size a b) (k : Below b.heap.size b c) : Below a.heap.size a c := h.trans (k.mono h.size)
def putS (n : Nat) (l : List UInt8) : List UInt8 := if n = 0 then [] else if 48 < l.length then [] else Lf.leaf n l
def putE (n : Nat) (l : List UInt8) : Int := if n = 0 then 2 else if 48 < l.length then 3 else 0
def PutRes (n : Nat) (l : List UInt8) (w : World) (e : Ending) (w' : World) : Prop := e = .returned (.tuple #[.string ⟨(putS n l).toArray⟩, .int .i64 (putE n l)]) ∧ Below w.heap.size w w'
theorem put_0 (n : Nat) (l : List UInt8) (h : n = 0) : putS n l = [] ∧ putE n l = 2 := by unfold putS putE; rw [if_pos h, if_pos h]; exact ⟨rfl, rfl⟩
theorem put_long (n : Nat) (l : List UInt8) (h : n ≠ 0) (hl : 48 < l.length) : putS n l = [] ∧ putE n l = 3 := by unfold putS putE; rw [if_neg h, if_neg h, if_pos hl, if_pos hl]; exact ⟨rfl, rfl⟩
theorem put_ok (n : Nat) (l : List UInt8) (h : n ≠ 0) (hl : l.length ≤ 48) : putS n l = Lf.leaf n l ∧ putE n l = 0 := by unfold putS putE; rw [if_neg h, if_neg h, if_neg (by omega), if_neg (by omega)]; exact ⟨rfl, rfl⟩
def EndsRes (b : List UInt8) (w : World) (e : Ending) (w' : World) : Prop := e = .returned (.tuple #[.int .u64 (Lf.ends b).1, .int .u64 (Lf.ends b).2]) ∧ Below w.heap.size w w'
theorem ends_no (b : List UInt8) (h : b.length ≠ 64) : (Lf.ends b).1 = 0 ∧ (Lf.ends b).2 = 0 := by unfold Lf.ends; rw [if_neg h]; exact ⟨rfl, rfl⟩
theorem ends_is (b : List UInt8) (h : b.length = 64) : (Lf.ends b).1 = Lf.headOf b ∧ (Lf.ends b).2 = Lf.footOf b := by unfold Lf.ends; rw [if_pos h]; exact ⟨rfl, rfl⟩
theorem ext_take (s : ByteArray) (k : Nat) : s.extract 0 k = ⟨(s.data.toList.take k).toArray⟩ := by
  apply ByteArray.ext
  apply Array.ext'
  simp
theorem ext_mid (s : ByteArray) (i j : Nat) : s.extract i j = ⟨((s.data.toList.take j).drop i).toArray⟩ := by
  apply ByteArray.ext
  apply Array.ext'
  simp [List.drop_take]
theorem ext_drop (s : ByteArray) (k : Nat) : s.extract k s.size = ⟨(s.data.toList.drop k).toArray⟩ := by
  rw [ext_mid, List.take_of_length_le (by simp)]
theorem sz_list (s : ByteArray) : s.data.toList.length = s.size := by simp
def gN : Option (Nat × List UInt8) → Nat
  | some (n, _) => n
  | none => 0
def gS : Option (Nat × List UInt8) → List UInt8
  | some (_, s) => s
  | none => []
def GetRes (o : Option (Nat × List UInt8)) (w : World) (e : Ending) (w' : World) : Prop := e = .returned (.tuple #[.int .u64 (gN o), .string ⟨(gS o).toArray⟩, .bool o.isSome]) ∧ Below w.heap.size w w'
theorem mid_ext (s : ByteArray) : s.extract 8 56 = ⟨(Lf.mid s.data.toList).toArray⟩ := by
  rw [ext_mid]
  unfold Lf.mid
  rw [List.drop_take]
theorem ends_64 (b : List UInt8) (h : (Lf.ends b).1 ≠ 0) : b.length = 64 := by
  unfold Lf.ends at h
  split at h
  · assumption
  · exact absurd rfl h
theorem get_0 (b : List UInt8) (h : (Lf.ends b).1 = 0) : Lf.get b = none := by unfold Lf.get; rw [if_pos (.inl h)]
theorem get_ne (b : List UInt8) (h : (Lf.ends b).1 ≠ (Lf.ends b).2) : Lf.get b = none := by unfold Lf.get; rw [if_pos (.inr h)]
theorem get_some (b : List UInt8) (h0 : (Lf.ends b).1 ≠ 0) (h : (Lf.ends b).1 = (Lf.ends b).2) : Lf.get b = some ((Lf.ends b).1, Lf.mid b) := by
  unfold Lf.get; rw [if_neg (by intro e; rcases e with e | e; exact h0 e; exact e h)]
theorem ends_lt (b : List UInt8) : (Lf.ends b).1 < 18446744073709551616 ∧ (Lf.ends b).2 < 18446744073709551616 := by
  unfold Lf.ends
  split
  · rename_i h
    refine ⟨Lf.num_lt8 _ (by rw [List.length_take]; omega), Lf.num_lt8 _ (by rw [List.length_reverse, List.length_drop]; omega)⟩
  · exact ⟨by decide, by decide⟩
theorem leaf_eq (b : List UInt8) (h0 : (Lf.ends b).1 ≠ 0) : (Lf.leaf (Lf.ends b).1 (Lf.mid b) = b) ↔ (Lf.ends b).1 = (Lf.ends b).2 := by
  have h := ends_64 b h0
  obtain ⟨e1, e2⟩ := ends_is b h
  rw [e1, e2]
  exact Lf.leaf_iff b h
end Go.Proofs.YtjlncjabiofklaaDoor.Le
end
section
namespace Go.Proofs.YtjlncjabiofklaaDoor.Le
open Go.RowKit Cm
theorem athead_c (i : Int) (w : World) : Calls Tryd.prog 57 #[.int .i64 i] w fun e w' => e = .returned (.int .i64 i) ∧ w = w' := by
  go_enter Tryd.func57, Tryd.ntmps57
  go_wp2_with fail
  go_ret
  exact ⟨rfl, rfl⟩
theorem atfoot_c (i : Int) (w : World) (h0 : 0 ≤ i) (h1 : i ≤ 63) : Calls Tryd.prog 58 #[.int .i64 i] w fun e w' => e = .returned (.int .i64 (63 - i)) ∧ w = w' := by
  go_enter Tryd.func58, Tryd.ntmps58
  go_wp2_with fail
  go_ret
  exact ⟨rfl, rfl⟩
theorem or_256 (a c : Nat) (ha : a < 72057594037927936) (hc : c < 256) : bits .or .u64 ((a : Int) * 256) (c : Int) = (a : Int) * 256 + (c : Int) := by
  have := u64_or_nat (a * 256) c (by omega) (by omega)
  rw [nat_join 8 (a * 256) c (by omega) (by omega)] at this
  have e1 : ((a * 256 : Nat) : Int) = (a : Int) * 256 := by omega
  rw [e1] at this
  omega
/-- What 'read' is told: a place for each of eight. -/
structure Places (f : Nat) (p : Nat → Nat) : Prop where
  call : ∀ (i : Nat) (w : World), i < 8 → Calls Tryd.prog f #[.int .i64 i] w fun e w' => e = .returned (.int .i64 (p i)) ∧ w = w'
  lt : ∀ i, i < 8 → p i < 64
theorem head_places : Places 57 (fun i => i) := ⟨fun i w _ => athead_c i w, fun i h => by omega⟩
theorem foot_places : Places 58 (fun i => 63 - i) := ⟨fun i w h => by
  have := atfoot_c (i : Int) w (by omega) (by omega)
  rwa [show (63 : Int) - (i : Int) = ((63 - i : Nat) : Int) by omega] at this, fun i _ => by omega⟩
def picked (s : List UInt8) (p : Nat → Nat) (k : Nat) : List UInt8 := (List.range k).map fun i => s.getD (p i) 0
theorem picked_succ (s : List UInt8) (p : Nat → Nat) (k : Nat) : picked s p (k + 1) = picked s p k ++ [s.getD (p k) 0] := by
  unfold picked; rw [List.range_succ, List.map_append]; rfl
theorem picked_small (s : List UInt8) (p : Nat → Nat) (k : Nat) (h : k < 8) : Lf.num (picked s p k) < 72057594037927936 := by
  have h1 := Lf.num_lt k (picked s p k) (by unfold picked; simp)
  have h2 : 256 ^ k ≤ 256 ^ 7 := Nat.pow_le_pow_right (by decide) (by omega)
  have h3 : 256 ^ 7 = 72057594037927936 := by decide
  omega
theorem picked_head (s : List UInt8) (h : s.length = 64) : picked s (fun i => i) 8 = s.take 8 := by
  refine List.ext_getElem (by unfold picked; simp; omega) fun j h1 h2 => ?_
  unfold picked
  have : j < 8 := by unfold picked at h1; simpa using h1
  simp [List.getD, show j < s.length by omega]
theorem picked_foot (s : List UInt8) (h : s.length = 64) : picked s (fun i => 63 - i) 8 = (s.drop 56).reverse := by
  refine List.ext_getElem (by unfold picked; simp; omega) fun j h1 h2 => ?_
  unfold picked
  have hj : j < 8 := by unfold picked at h1; simpa using h1
  have e : 56 + (s.length - 56 - 1 - j) = 63 - j := by omega
  simp [List.getD, List.getElem_reverse, show 63 - j < s.length by omega, e]
theorem getD_byte (s : ByteArray) (i : Nat) (h : i < s.size) : s.data.toList.getD i 0 = s[i] := by
  rw [List.getD_eq_getElem?_getD, List.getElem?_eq_getElem (by simpa using h)]
  simp
  rfl
set_option maxRecDepth 100000 in
set_option maxHeartbeats 800000 in
theorem read_head (s : ByteArray) (p : Nat → Nat) (w : World) (hp : Places 57 p) (hs : s.size = 64) :
    Calls Tryd.prog 56 #[.string s, .func (.func 57) #[] #[]] w fun e w' => e = .returned (.int .u64 (Lf.num (picked s.data.toList p 8))) ∧ Below w.heap.size w w' := by
  have HP := Lib.hid hp
  have HZ := Lib.hid hs
  have hz1 : s.size ≤ 64 := by omega
  have hz2 : 64 ≤ s.size := by omega
  clear hp hs
  go_enter Tryd.func56, Tryd.ntmps56
  go_wp2_with fail
  go_loopw [6, 9] (fun n i wr => ∃ (k : Nat) (C : Array Value), k ≤ 8 ∧ i = .int .i64 k ∧ n = .int .u64 (Lf.num (picked s.data.toList p k)) ∧ C.size = 8 ∧ wr = w.alloc (.cells C 124)) (fun _ i _ => 8 - (intOf i).toNat)
  case atStart => exact ⟨0, _, by omega, rfl, rfl, rfl, rfl⟩
  case round =>
    obtain ⟨k, C, hk, rfl, rfl, hC, rfl⟩ := hrel
    by_cases hlt : k < 8
    · have hpl : p k < s.size := by have := HP.out.lt k hlt; omega
      have hb : s[p k].toNat < 256 := s[p k].toNat_lt
      have hkc : k < C.size := by omega
      have HC := Lib.hid hC
      have hn := picked_small s.data.toList p k hlt
      have HT := Lib.hid (show Lf.num (picked s.data.toList p (k + 1)) = Lf.num (picked s.data.toList p k) * 256 + s[p k].toNat by
        rw [picked_succ, Lf.num_snoc]
        congr 2
        rw [getD_byte s _ hpl])
      have hor := or_256 (Lf.num (picked s.data.toList p k)) s[p k].toNat hn hb
      have hcell : (w.alloc (.cells C 124)).cell? ⟨w.heap.size, k, none⟩ = some C[k] := by rw [World.cell?_alloc_at _ _ _ _ rfl]; simp [hkc]
      have q0 : (0 : Int) ≤ (p k : Int) := by omega
      have q1 : (p k : Int) < (s.size : Int) := by omega
      clear hC
      generalize Lf.num (picked s.data.toList p k) = n at *
      go_wp2_with fail
      refine (HP.out.call k _ hlt).mono ?_
      rintro e w' ⟨rfl, rfl⟩
      go_wp2_with fail
      exact ⟨⟨k + 1, _, by omega, by simp, by rw [HT.out]; rfl, by simp [HC.out], rfl⟩, by simp [intOf]; omega⟩
    · obtain rfl : k = 8 := by omega
      go_wp2_with fail
      go_ret
      exact ⟨rfl, (Below.refl _ w).alloc (Nat.le_refl _) _⟩
set_option maxRecDepth 100000 in
set_option maxHeartbeats 800000 in
theorem read_foot (s : ByteArray) (p : Nat → Nat) (w : World) (hp : Places 58 p) (hs : s.size = 64) :
    Calls Tryd.prog 56 #[.string s, .func (.func 58) #[] #[]] w fun e w' => e = .returned (.int .u64 (Lf.num (picked s.data.toList p 8))) ∧ Below w.heap.size w w' := by
  have HP := Lib.hid hp
  have HZ := Lib.hid hs
  have hz1 : s.size ≤ 64 := by omega
  have hz2 : 64 ≤ s.size := by omega
  clear hp hs
  go_enter Tryd.func56, Tryd.ntmps56
  go_wp2_with fail
  go_loopw [6, 9] (fun n i wr => ∃ (k : Nat) (C : Array Value), k ≤ 8 ∧ i = .int .i64 k ∧ n = .int .u64 (Lf.num (picked s.data.toList p k)) ∧ C.size = 8 ∧ wr = w.alloc (.cells C 124)) (fun _ i _ => 8 - (intOf i).toNat)
  case atStart => exact ⟨0, _, by omega, rfl, rfl, rfl, rfl⟩
  case round =>
    obtain ⟨k, C, hk, rfl, rfl, hC, rfl⟩ := hrel
    by_cases hlt : k < 8
    · have hpl : p k < s.size := by have := HP.out.lt k hlt; omega
      have hb : s[p k].toNat < 256 := s[p k].toNat_lt
      have hkc : k < C.size := by omega
      have HC := Lib.hid hC
      have hn := picked_small s.data.toList p k hlt
      have HT := Lib.hid (show Lf.num (picked s.data.toList p (k + 1)) = Lf.num (picked s.data.toList p k) * 256 + s[p k].toNat by
        rw [picked_succ, Lf.num_snoc]
        congr 2
        rw [getD_byte s _ hpl])
      have hor := or_256 (Lf.num (picked s.data.toList p k)) s[p k].toNat hn hb
      have hcell : (w.alloc (.cells C 124)).cell? ⟨w.heap.size, k, none⟩ = some C[k] := by rw [World.cell?_alloc_at _ _ _ _ rfl]; simp [hkc]
      have q0 : (0 : Int) ≤ (p k : Int) := by omega
      have q1 : (p k : Int) < (s.size : Int) := by omega
      clear hC
      generalize Lf.num (picked s.data.toList p k) = n at *
      go_wp2_with fail
      refine (HP.out.call k _ hlt).mono ?_
      rintro e w' ⟨rfl, rfl⟩
      go_wp2_with fail
      exact ⟨⟨k + 1, _, by omega, by simp, by rw [HT.out]; rfl, by simp [HC.out], rfl⟩, by simp [intOf]; omega⟩
    · obtain rfl : k = 8 := by omega
      go_wp2_with fail
      go_ret
      exact ⟨rfl, (Below.refl _ w).alloc (Nat.le_refl _) _⟩
set_option maxRecDepth 100000 in
theorem ends_c (s : ByteArray) (w : World) : Calls Tryd.prog 45 #[.string s] w (EndsRes s.data.toList w) := by
  have hsz := sz_list s
  by_cases hl : s.size = 64
  · have HE := Lib.hid (ends_is s.data.toList (by rw [hsz]; exact hl))
    have hz : ((s.size : Int) != 64) = false := by rw [bne_eq_false_iff_eq]; omega
    have hz2 : ((s.size : Int) == 64) = true := beq_iff_eq.2 (by omega)
    have hle : s.size ≤ 64 := by omega
    have K1 := Lib.hid (fun w => (picked_head s.data.toList (by rw [hsz]; exact hl)) ▸ read_head s _ w head_places hl)
    have K2 := Lib.hid (fun w => (picked_foot s.data.toList (by rw [hsz]; exact hl)) ▸ read_foot s _ w foot_places hl)
    clear hl hsz
    go_enter Tryd.func45, Tryd.ntmps45
    go_wp2_with fail
    refine (K1.out _).mono ?_
    rintro e w1 ⟨rfl, b1⟩
    go_wp2_with fail
    refine (K2.out _).mono ?_
    rintro e w2 ⟨rfl, b2⟩
    go_wp2_with fail
    go_ret2
    unfold EndsRes
    rw [HE.out.1, HE.out.2]
    exact ⟨rfl, then_below b1 b2⟩
  · have HE := Lib.hid (ends_no s.data.toList (by rw [hsz]; exact hl))
    have hz : ((s.size : Int) != 64) = true := by rw [bne_iff_ne]; omega
    have hz2 : ((s.size : Int) == 64) = false := beq_eq_false_iff_ne.2 (by omega)
    clear hl hsz
    go_enter Tryd.func45, Tryd.ntmps45
    go_wp2_with fail
    go_ret2
    unfold EndsRes
    rw [HE.out.1, HE.out.2]
    exact ⟨rfl, Below.refl _ _⟩
theorem mid_two (s : ByteArray) : (s.extract 8 s.size).extract 0 48 = ⟨(Lf.mid s.data.toList).toArray⟩ := by
  rw [ext_drop, ext_take]
  simp [Lf.mid]
set_option maxRecDepth 100000 in
theorem get_c (s : ByteArray) (w : World) : Calls Tryd.prog 69 #[.string s] w (GetRes (Lf.get s.data.toList) w) := by
  have KE := Lib.hid (fun w => ends_c s w)
  unfold EndsRes at KE
  by_cases h0 : (Lf.ends s.data.toList).1 = 0
  · have HG := Lib.hid (get_0 _ h0)
    have hz : (((Lf.ends s.data.toList).1 : Int) == 0) = true := beq_iff_eq.2 (by omega)
    clear h0
    generalize (Lf.ends s.data.toList).1 = n at *
    generalize (Lf.ends s.data.toList).2 = m at *
    go_enter Tryd.func69, Tryd.ntmps69
    go_wp2_with fail
    refine (KE.out _).mono ?_
    rintro e w1 ⟨rfl, b1⟩
    go_wp2_with fail
    go_ret3
    rw [HG.out]
    exact ⟨rfl, b1⟩
  · have hz : (((Lf.ends s.data.toList).1 : Int) == 0) = false := beq_eq_false_iff_ne.2 (by omega)
    by_cases he : (Lf.ends s.data.toList).1 = (Lf.ends s.data.toList).2
    · have HG := Lib.hid (get_some _ h0 he)
      have h64 := ends_64 _ h0
      have hsz := sz_list s
      have hle : s.size ≤ 64 := by omega
      have q8 : (8 : Int) ≤ (s.size : Int) := by omega
      have q56 : (48 : Int) ≤ (s.size : Int) - 8 := by omega
      have HX := Lib.hid (mid_two s)
      rw [← he] at KE
      clear h0 he h64 hsz
      generalize (Lf.ends s.data.toList).1 = n at *
      generalize (Lf.ends s.data.toList).2 = m at *
      go_enter Tryd.func69, Tryd.ntmps69
      go_wp2_with fail
      refine (KE.out _).mono ?_
      rintro e w1 ⟨rfl, b1⟩
      go_wp2_with fail
      go_quiet (fail)
      go_wp2_with fail
      go_ret3
      rw [HG.out]
      exact ⟨by rw [HX.out]; rfl, ⟨b1.os, b1.tape, b1.output, b1.size, b1.block⟩⟩
    · have HG := Lib.hid (get_ne _ he)
      have hq : (((Lf.ends s.data.toList).1 : Int) == ((Lf.ends s.data.toList).2 : Int)) = false := beq_eq_false_iff_ne.2 (by omega)
      clear h0 he
      generalize (Lf.ends s.data.toList).1 = n at *
      generalize (Lf.ends s.data.toList).2 = m at *
      go_enter Tryd.func69, Tryd.ntmps69
      go_wp2_with fail
      refine (KE.out _).mono ?_
      rintro e w1 ⟨rfl, b1⟩
      go_wp2_with fail
      go_ret3
      rw [HG.out]
      exact ⟨rfl, b1⟩
end Go.Proofs.YtjlncjabiofklaaDoor.Le
end
section
namespace Go.Proofs.YtjlncjabiofklaaDoor.Le
open Go.RowKit Cm
def row64 (f : Nat → UInt8) : List Value := (List.range 64).map fun j => bv (f j)
theorem row64_len (f : Nat → UInt8) : (row64 f).length = 64 := by unfold row64; simp
theorem row64_get (f : Nat → UInt8) (i : Nat) (h : i < 64) : (row64 f)[i]? = some (bv (f i)) := by
  unfold row64
  rw [List.getElem?_map, List.getElem?_range h]; rfl
theorem row64_at (f : Nat → UInt8) (i : Nat) (h : i < (row64 f).length) : (row64 f)[i] = bv (f i) := by
  have h1 := row64_get f i (by rw [row64_len] at h; exact h)
  rw [List.getElem?_eq_getElem h] at h1
  exact Option.some.inj h1
theorem row64_set (f : Nat → UInt8) (i : Nat) (c : UInt8) : (row64 f).set i (bv c) = row64 fun j => if j = i then c else f j := by
  refine List.ext_getElem (by rw [List.length_set, row64_len, row64_len]) fun j h1 h2 => ?_
  rw [List.getElem_set, row64_at, row64_at]
  by_cases e : i = j
  · rw [if_pos e, if_pos e.symm]
  · rw [if_neg e, if_neg (fun h => e h.symm)]
theorem row_cell {w : World} {g : Nat} {f : Nat → UInt8} (h : RowAt w g (row64 f)) (i : Nat) (hi : i < 64) : w.cell? ⟨g, i, none⟩ = some (bv (f i)) := by
  have := h.cell i (by rw [row64_len]; exact hi)
  rwa [row64_at] at this
theorem row_free {w : World} {g : Nat} {f : Nat → UInt8} (h : RowAt w g (row64 f)) (i : Nat) (hi : i < 64) : w.frozen? ⟨g, i, none⟩ = false := h.free i (by rw [row64_len]; exact hi)
/-- What lies between the stamps at first. -/
def f0 (s : List UInt8) (j : Nat) : UInt8 := if 8 ≤ j ∧ j < 8 + s.length then s.getD (j - 8) 0 else 0
def byteOf (n i : Nat) : UInt8 := UInt8.ofNat (n / 256 ^ (7 - i) % 256)
/-- Behind k rounds. -/
def fk (n : Nat) (s : List UInt8) (k j : Nat) : UInt8 := if j < k then byteOf n j else if 63 < j + k then byteOf n (63 - j) else f0 s j
theorem below_cells {w : World} {base b : Nat} (hb : base ≤ b) : ∀ (vs : List Value) (o : Nat) (a : World), Below base w a → Below base w (a.setCells b o vs)
  | [], _, _, h => h
  | v :: r, o, _, h => below_cells hb r (o + 1) _ (h.setCell (p := ⟨b, o, none⟩) hb v)
theorem _root_.Go.Proofs.YtjlncjabiofklaaDoor.Tryd.size8 (w : World) : (Go.sizeOf 5).run Tryd.prog w = .ok 1 w := by kernel_rfl
structure Begun (w : World) (s : List UInt8) (u : World) : Prop where
  row : RowAt u w.heap.size (row64 (f0 s))
  eight : RowAt u (w.heap.size + 1) (List.replicate 8 (.int .u8 0))
  below : Below w.heap.size w u
theorem rep64 : (#[.int .u8 0, .int .u8 0, .int .u8 0, .int .u8 0, .int .u8 0, .int .u8 0, .int .u8 0, .int .u8 0, .int .u8 0, .int .u8 0, .int .u8 0, .int .u8 0, .int .u8 0, .int .u8 0, .int .u8 0, .int .u8 0, .int .u8 0, .int .u8 0, .int .u8 0, .int .u8 0, .int .u8 0, .int .u8 0, .int .u8 0, .int .u8 0, .int .u8 0, .int .u8 0, .int .u8 0, .int .u8 0, .int .u8 0, .int .u8 0, .int .u8 0, .int .u8 0, .int .u8 0, .int .u8 0, .int .u8 0, .int .u8 0, .int .u8 0, .int .u8 0, .int .u8 0, .int .u8 0, .int .u8 0, .int .u8 0, .int .u8 0, .int .u8 0, .int .u8 0, .int .u8 0, .int .u8 0, .int .u8 0, .int .u8 0, .int .u8 0, .int .u8 0, .int .u8 0, .int .u8 0, .int .u8 0, .int .u8 0, .int .u8 0, .int .u8 0, .int .u8 0, .int .u8 0, .int .u8 0, .int .u8 0, .int .u8 0, .int .u8 0, .int .u8 0] : Array Value) = (List.replicate 64 (Value.int .u8 0)).toArray := by rfl
theorem rep8 : (#[.int .u8 0, .int .u8 0, .int .u8 0, .int .u8 0, .int .u8 0, .int .u8 0, .int .u8 0, .int .u8 0] : Array Value) = (List.replicate 8 (Value.int .u8 0)).toArray := by rfl
theorem heap_cells (b : Nat) : ∀ (vs : List Value) (o : Nat) (w : World), (w.setCells b o vs).heap.size = w.heap.size
  | [], _, _ => rfl
  | v :: r, o, w => by rw [World.setCells, heap_cells b r]; simp [World.setCell]
theorem copy_there (w : World) (s : ByteArray) (hs : s.size ≤ 48) : ∃ u, (Builtin.copy_ #[71, 9] 3 #[.slice (some ⟨w.heap.size, 8, none⟩) 56 56, .string s]).run Tryd.prog ((w.alloc (.cells #[.int .u8 0, .int .u8 0, .int .u8 0, .int .u8 0, .int .u8 0, .int .u8 0, .int .u8 0, .int .u8 0, .int .u8 0, .int .u8 0, .int .u8 0, .int .u8 0, .int .u8 0, .int .u8 0, .int .u8 0, .int .u8 0, .int .u8 0, .int .u8 0, .int .u8 0, .int .u8 0, .int .u8 0, .int .u8 0, .int .u8 0, .int .u8 0, .int .u8 0, .int .u8 0, .int .u8 0, .int .u8 0, .int .u8 0, .int .u8 0, .int .u8 0, .int .u8 0, .int .u8 0, .int .u8 0, .int .u8 0, .int .u8 0, .int .u8 0, .int .u8 0, .int .u8 0, .int .u8 0, .int .u8 0, .int .u8 0, .int .u8 0, .int .u8 0, .int .u8 0, .int .u8 0, .int .u8 0, .int .u8 0, .int .u8 0, .int .u8 0, .int .u8 0, .int .u8 0, .int .u8 0, .int .u8 0, .int .u8 0, .int .u8 0, .int .u8 0, .int .u8 0, .int .u8 0, .int .u8 0, .int .u8 0, .int .u8 0, .int .u8 0, .int .u8 0] 67)).alloc (.cells #[.int .u8 0, .int .u8 0, .int .u8 0, .int .u8 0, .int .u8 0, .int .u8 0, .int .u8 0, .int .u8 0] 124)) = .ok (.int .i64 s.size) u ∧ Begun w s.data.toList u := by
  rw [rep64, rep8]
  have hsz := sz_list s
  have hc : ∀ j, j < 64 → ((w.alloc (.cells (List.replicate 64 (Value.int .u8 0)).toArray 67)).alloc (.cells (List.replicate 8 (Value.int .u8 0)).toArray 124)).cell? ⟨w.heap.size, j, none⟩ = some (.int .u8 0) := by
    intro j hj
    rw [World.cell?_alloc_past _ _ _ (by simp), World.cell?_alloc_at _ _ _ _ rfl]
    rw [List.getElem?_toArray, List.getElem?_replicate, if_pos hj]
  have hf : ∀ j, ((w.alloc (.cells (List.replicate 64 (Value.int .u8 0)).toArray 67)).alloc (.cells (List.replicate 8 (Value.int .u8 0)).toArray 124)).frozen? ⟨w.heap.size, j, none⟩ = false := by
    intro j
    rw [World.frozen?_alloc_past _ _ _ (by simp), World.frozen?_alloc_at _ _ _ _ rfl]
  have h8 : RowAt ((w.alloc (.cells (List.replicate 64 (Value.int .u8 0)).toArray 67)).alloc (.cells (List.replicate 8 (Value.int .u8 0)).toArray 124)) (w.heap.size + 1) (List.replicate 8 (.int .u8 0)) := by
    have := row_new (w.alloc (.cells (List.replicate 64 (Value.int .u8 0)).toArray 67)) (List.replicate 8 (.int .u8 0)) 124
    simpa using this
  have hb : Below w.heap.size w ((w.alloc (.cells (List.replicate 64 (Value.int .u8 0)).toArray 67)).alloc (.cells (List.replicate 8 (Value.int .u8 0)).toArray 124)) := ((Below.refl _ w).alloc (Nat.le_refl _) _).alloc (by simp) _
  have hz : w.heap.size < ((w.alloc (.cells (List.replicate 64 (Value.int .u8 0)).toArray 67)).alloc (.cells (List.replicate 8 (Value.int .u8 0)).toArray 124)).heap.size := by simp; omega
  generalize (w.alloc (.cells (List.replicate 64 (Value.int .u8 0)).toArray 67)).alloc (.cells (List.replicate 8 (Value.int .u8 0)).toArray 124) = W at *
  have hrun := run_copy_string (P := Tryd.prog) W 71 9 3 5 w.heap.size 8 56 56 s und_bytes Tryd.size8 (by omega) (fun j hj => by rw [hc _ (by omega)]; rfl) (fun j hj => hf _)
  refine ⟨_, hrun, ⟨by rw [heap_cells]; exact hz, fun j hj => ?_, fun j hj => by rw [World.frozen?_setCells]; exact hf j⟩, ?_, below_cells (Nat.le_refl _) _ _ _ hb⟩
  · rw [row64_at]
    have hj' : j < 64 := by rw [row64_len] at hj; exact hj
    by_cases hin : 8 ≤ j ∧ j < 8 + s.size
    · have h1 := World.cell?_setCells_in w.heap.size (s.data.toList.map fun x => Value.int .u8 (x.toNat : Int)) 8 W (fun i hi => by rw [hc _ (by simp at hi; omega)]; rfl) (j - 8) (by simp; omega)
      rw [show 8 + (j - 8) = j by omega] at h1
      rw [h1]
      unfold f0
      rw [if_pos (by rw [hsz]; exact hin), List.getD_eq_getElem?_getD, List.getElem?_eq_getElem (by rw [hsz]; omega)]
      simp [bv]
    · rw [World.cell?_setCells_out _ _ _ _ _ (fun _ _ => by simp; omega), hc j hj']
      unfold f0
      rw [if_neg (by rw [hsz]; exact hin)]; rfl
  · refine ⟨by rw [heap_cells]; exact h8.lt, fun j hj => ?_, fun j hj => by rw [World.frozen?_setCells]; exact h8.free j hj⟩
    rw [World.cell?_setCells_out _ _ _ _ _ (fun h1 _ => by simp at h1)]
    exact h8.cell j hj
theorem alen : Tryd.prog.arrayLen 67 = 64 := by kernel_rfl
theorem asize (w : World) : (Go.sizeOf (Tryd.prog.elem 67)).run Tryd.prog w = .ok 1 w := by kernel_rfl
theorem aund : Tryd.prog.underlying 67 = some (.array (Tryd.prog.arrayLen 67) (Tryd.prog.elem 67)) := by kernel_rfl
theorem slice64 (b : Nat) (wx : World) : Sem.run Tryd.prog (Instr.sliceAt 67 (.pointer (some ⟨b, 0, none⟩)) none none none) wx = .ok (.slice (some ⟨b, 0, none⟩) 64 64) wx := by
  have h := run_sliceAt_array_all wx 67 ⟨b, 0, none⟩ aund
  rw [asize, alen] at h
  rw [h]
  simp [slicedAt, Result.andThen, Addr.add]
theorem fk_zero (n : Nat) (s : List UInt8) : row64 (f0 s) = row64 (fk n s 0) := by
  unfold row64
  refine List.map_congr_left fun j hj => ?_
  have := List.mem_range.1 hj
  unfold fk
  rw [if_neg (by omega), if_neg (by omega)]
theorem fk_succ (n : Nat) (s : List UInt8) (k : Nat) (h : k < 8) : ((row64 (fk n s k)).set k (bv (byteOf n k))).set (63 - k) (bv (byteOf n k)) = row64 (fk n s (k + 1)) := by
  rw [row64_set, row64_set]
  unfold row64
  refine List.map_congr_left fun j hj => ?_
  have hj' := List.mem_range.1 hj
  congr 1
  show (if j = 63 - k then byteOf n k else if j = k then byteOf n k else fk n s k j) = fk n s (k + 1) j
  unfold fk
  by_cases e1 : j = 63 - k
  · subst e1; rw [if_pos rfl, if_neg (by omega), if_pos (by omega)]; congr 1; omega
  · rw [if_neg e1]
    by_cases e2 : j = k
    · subst e2; rw [if_pos rfl, if_pos (by omega)]
    · rw [if_neg e2]
      by_cases h1 : j < k
      · rw [if_pos h1, if_pos (show j < k + 1 by omega)]
      · by_cases h2 : 63 < j + k
        · rw [if_neg h1, if_pos h2, if_neg (show ¬ j < k + 1 by omega), if_pos (show 63 < j + (k + 1) by omega)]
        · rw [if_neg h1, if_neg h2, if_neg (show ¬ j < k + 1 by omega), if_neg (show ¬ 63 < j + (k + 1) by omega)]
theorem fk_done (n : Nat) (s : List UInt8) (hs : s.length ≤ 48) : row64 (fk n s 8) = (Lf.leaf n s).map bv := by
  have hl := Lf.leaf_len n s hs
  refine List.ext_getElem (by rw [row64_len, List.length_map, hl]) fun j h1 h2 => ?_
  rw [row64_at, List.getElem_map]
  have hj : j < 64 := by rw [row64_len] at h1; exact h1
  congr 1
  have h3 : (Lf.leaf n s)[j]? = some (fk n s 8 j) := by
    unfold Lf.leaf fk
    have b8l := Lf.b8_len n
    have fl := Lf.full_len s hs
    by_cases e1 : j < 8
    · rw [if_pos e1, List.append_assoc, List.getElem?_append_left (by omega)]
      exact Lf.be_get 8 n j e1
    · rw [if_neg e1]
      by_cases e2 : 63 < j + 8
      · rw [if_pos e2, List.getElem?_append_right (by simp; omega), List.getElem?_reverse (by simp; omega)]
        have : (Lf.b8 n)[63 - j]? = _ := Lf.be_get 8 n (63 - j) (by omega)
        rw [List.length_append, b8l, fl, show 8 - 1 - (j - (8 + 48)) = 63 - j by omega, this]
        rfl
      · rw [if_neg e2, List.getElem?_append_left (by simp; omega), List.getElem?_append_right (by omega), b8l]
        unfold Lf.full f0
        by_cases e3 : j < 8 + s.length
        · rw [if_pos ⟨by omega, e3⟩, List.getElem?_append_left (by omega), List.getD_eq_getElem?_getD, List.getElem?_eq_getElem (by omega)]; rfl
        · rw [if_neg (by omega), List.getElem?_append_right (by omega), List.getElem?_replicate, if_pos (by omega)]
  rw [List.getElem?_eq_getElem (by omega)] at h3
  exact (Option.some.inj h3).symm
set_option maxRecDepth 100000 in
set_option maxHeartbeats 1600000 in
theorem put_c (n : Nat) (s : ByteArray) (w : World) (hn : n < 18446744073709551616) (hl9 : s.size ≤ 9223372036854775807) : Calls Tryd.prog 66 #[.int .u64 n, .string s] w (PutRes n s.data.toList w) := by
  have hsz := sz_list s
  by_cases h0 : n = 0
  · have HP := Lib.hid (put_0 n s.data.toList h0)
    have hz : ((n : Int) == 0) = true := beq_iff_eq.2 (by omega)
    clear h0
    go_enter Tryd.func66, Tryd.ntmps66
    go_wp2_with fail
    go_ret2
    unfold PutRes
    rw [HP.out.1, HP.out.2]
    exact ⟨rfl, Below.refl _ _⟩
  · have hz : ((n : Int) == 0) = false := beq_eq_false_iff_ne.2 (by omega)
    by_cases hl : 48 < s.size
    · have HP := Lib.hid (put_long n s.data.toList h0 (by omega))
      clear h0 hsz
      go_enter Tryd.func66, Tryd.ntmps66
      go_wp2_with fail
      go_ret2
      unfold PutRes
      rw [HP.out.1, HP.out.2]
      exact ⟨rfl, Below.refl _ _⟩
    · have HP := Lib.hid (put_ok n s.data.toList h0 (by omega))
      clear h0 hsz
      have hl2 : s.size ≤ 48 := by omega
      obtain ⟨u, hcp, hbg⟩ := copy_there w s hl2
      have hd : decide ((48 : Int) < (s.size : Int)) = false := decide_eq_false (by omega)
      have HB := Lib.hid hbg
      clear hbg
      go_enter Tryd.func66, Tryd.ntmps66
      go_wp2_with fail
      clear hcp
      go_loopw [18] (fun i wr => ∃ (k : Nat) (xs : List Value), k ≤ 8 ∧ i = .int .i64 k ∧ xs.length = 8 ∧ RowAt wr w.heap.size (row64 (fk n s.data.toList k)) ∧ RowAt wr (w.heap.size + 1) xs ∧ Below w.heap.size w wr) (fun i _ => 8 - (intOf i).toNat)
      case atStart => exact ⟨0, _, by omega, rfl, by simp, by rw [← fk_zero]; exact HB.out.row, HB.out.eight, HB.out.below⟩
      case round =>
        obtain ⟨k, xs, hk, rfl, hxl, hr, h8, hB0⟩ := hrel
        have HR := Lib.hid hr
        have H8 := Lib.hid h8
        have HBB := Lib.hid hB0
        have h8l : xs.length = 8 := hxl
        clear hr h8 hB0 HB hxl
        by_cases h8k : k < 8
        · obtain rfl | rfl | rfl | rfl | rfl | rfl | rfl | rfl : k = 0 ∨ k = 1 ∨ k = 2 ∨ k = 3 ∨ k = 4 ∨ k = 5 ∨ k = 6 ∨ k = 7 := by omega
          · have HV := Lib.hid (show ((n : Int) / 72057594037927936 : Int) = ((byteOf n 0).toNat : Int) by unfold byteOf; simp; try omega)
            have c1 := RowAt.cell H8.out 0 (by rw [h8l]; omega)
            have f1 := RowAt.free H8.out 0 (by rw [h8l]; omega)
            go_wp2_with fail
            rw [HV.out]
            have R1 := Lib.hid (show RowAt (wr.setCell ⟨w.heap.size + 1, 0, none⟩ (.int .u8 ((byteOf n 0).toNat : Int))) w.heap.size (row64 (fk n s.data.toList 0)) from HR.out.other _ _ (by simp))
            have E1 := Lib.hid (show RowAt (wr.setCell ⟨w.heap.size + 1, 0, none⟩ (.int .u8 ((byteOf n 0).toNat : Int))) (w.heap.size + 1) (xs.set 0 (.int .u8 ((byteOf n 0).toNat : Int))) from H8.out.set _ _)
            have B1 := Lib.hid (show Below w.heap.size w (wr.setCell ⟨w.heap.size + 1, 0, none⟩ (.int .u8 ((byteOf n 0).toNat : Int))) from HBB.out.setCell (by simp) _)
            generalize wr.setCell ⟨w.heap.size + 1, 0, none⟩ (.int .u8 ((byteOf n 0).toNat : Int)) = W1 at *
            have hxs : (xs.set 0 (.int .u8 ((byteOf n 0).toNat : Int)))[0]'(by rw [List.length_set, h8l]; omega) = .int .u8 ((byteOf n 0).toNat : Int) := by simp
            have d1 := RowAt.cell E1.out 0 (by rw [List.length_set, h8l]; omega)
            rw [hxs] at d1
            have c2 := row_cell R1.out 0 (by omega)
            have f2 := row_free R1.out 0 (by omega)
            have c3 := row_cell R1.out 63 (by omega)
            have f3 := row_free R1.out 63 (by omega)
            clear hxs c1 f1 HR H8 HBB
            go_region_held3 (fun u => u.cell? ⟨w.heap.size + 1, 0, none⟩ = some (.int .u8 ((byteOf n 0).toNat : Int))) (go_keep) (first | (go_at_call 57; refine (athead_c _ _).mono ?_; rintro e w' ⟨rfl, rfl⟩) | (go_at_call 58; refine (atfoot_c _ _ (by omega) (by omega)).mono ?_; rintro e w' ⟨rfl, rfl⟩))
            go_wp2_with fail
            go_roundw
            case rel => exact ⟨1, _, by omega, rfl, by rw [List.length_set, h8l], by rw [← fk_succ _ _ 0 (by omega)]; exact (R1.out.drew.set 0 _).set 63 _, (E1.out.drew.other ⟨w.heap.size, 0, none⟩ _ (by simp)).other ⟨w.heap.size, 63, none⟩ _ (by simp), ((B1.out.drew.setCell (p := ⟨w.heap.size, 0, none⟩) (Nat.le_refl _) _).setCell (p := ⟨w.heap.size, 63, none⟩) (Nat.le_refl _) _)⟩
            case measure => simp [intOf]
          · have HV := Lib.hid (show ((n : Int) / 281474976710656 % 256 : Int) = ((byteOf n 1).toNat : Int) by unfold byteOf; simp; try omega)
            have c1 := RowAt.cell H8.out 1 (by rw [h8l]; omega)
            have f1 := RowAt.free H8.out 1 (by rw [h8l]; omega)
            go_wp2_with fail
            rw [HV.out]
            have R1 := Lib.hid (show RowAt (wr.setCell ⟨w.heap.size + 1, 1, none⟩ (.int .u8 ((byteOf n 1).toNat : Int))) w.heap.size (row64 (fk n s.data.toList 1)) from HR.out.other _ _ (by simp))
            have E1 := Lib.hid (show RowAt (wr.setCell ⟨w.heap.size + 1, 1, none⟩ (.int .u8 ((byteOf n 1).toNat : Int))) (w.heap.size + 1) (xs.set 1 (.int .u8 ((byteOf n 1).toNat : Int))) from H8.out.set _ _)
            have B1 := Lib.hid (show Below w.heap.size w (wr.setCell ⟨w.heap.size + 1, 1, none⟩ (.int .u8 ((byteOf n 1).toNat : Int))) from HBB.out.setCell (by simp) _)
            generalize wr.setCell ⟨w.heap.size + 1, 1, none⟩ (.int .u8 ((byteOf n 1).toNat : Int)) = W1 at *
            have hxs : (xs.set 1 (.int .u8 ((byteOf n 1).toNat : Int)))[1]'(by rw [List.length_set, h8l]; omega) = .int .u8 ((byteOf n 1).toNat : Int) := by simp
            have d1 := RowAt.cell E1.out 1 (by rw [List.length_set, h8l]; omega)
            rw [hxs] at d1
            have c2 := row_cell R1.out 1 (by omega)
            have f2 := row_free R1.out 1 (by omega)
            have c3 := row_cell R1.out 62 (by omega)
            have f3 := row_free R1.out 62 (by omega)
            clear hxs c1 f1 HR H8 HBB
            go_region_held3 (fun u => u.cell? ⟨w.heap.size + 1, 1, none⟩ = some (.int .u8 ((byteOf n 1).toNat : Int))) (go_keep) (first | (go_at_call 57; refine (athead_c _ _).mono ?_; rintro e w' ⟨rfl, rfl⟩) | (go_at_call 58; refine (atfoot_c _ _ (by omega) (by omega)).mono ?_; rintro e w' ⟨rfl, rfl⟩))
            go_wp2_with fail
            go_roundw
            case rel => exact ⟨2, _, by omega, rfl, by rw [List.length_set, h8l], by rw [← fk_succ _ _ 1 (by omega)]; exact (R1.out.drew.set 1 _).set 62 _, (E1.out.drew.other ⟨w.heap.size, 1, none⟩ _ (by simp)).other ⟨w.heap.size, 62, none⟩ _ (by simp), ((B1.out.drew.setCell (p := ⟨w.heap.size, 1, none⟩) (Nat.le_refl _) _).setCell (p := ⟨w.heap.size, 62, none⟩) (Nat.le_refl _) _)⟩
            case measure => simp [intOf]
          · have HV := Lib.hid (show ((n : Int) / 1099511627776 % 256 : Int) = ((byteOf n 2).toNat : Int) by unfold byteOf; simp; try omega)
            have c1 := RowAt.cell H8.out 2 (by rw [h8l]; omega)
            have f1 := RowAt.free H8.out 2 (by rw [h8l]; omega)
            go_wp2_with fail
            rw [HV.out]
            have R1 := Lib.hid (show RowAt (wr.setCell ⟨w.heap.size + 1, 2, none⟩ (.int .u8 ((byteOf n 2).toNat : Int))) w.heap.size (row64 (fk n s.data.toList 2)) from HR.out.other _ _ (by simp))
            have E1 := Lib.hid (show RowAt (wr.setCell ⟨w.heap.size + 1, 2, none⟩ (.int .u8 ((byteOf n 2).toNat : Int))) (w.heap.size + 1) (xs.set 2 (.int .u8 ((byteOf n 2).toNat : Int))) from H8.out.set _ _)
            have B1 := Lib.hid (show Below w.heap.size w (wr.setCell ⟨w.heap.size + 1, 2, none⟩ (.int .u8 ((byteOf n 2).toNat : Int))) from HBB.out.setCell (by simp) _)
            generalize wr.setCell ⟨w.heap.size + 1, 2, none⟩ (.int .u8 ((byteOf n 2).toNat : Int)) = W1 at *
            have hxs : (xs.set 2 (.int .u8 ((byteOf n 2).toNat : Int)))[2]'(by rw [List.length_set, h8l]; omega) = .int .u8 ((byteOf n 2).toNat : Int) := by simp
            have d1 := RowAt.cell E1.out 2 (by rw [List.length_set, h8l]; omega)
            rw [hxs] at d1
            have c2 := row_cell R1.out 2 (by omega)
            have f2 := row_free R1.out 2 (by omega)
            have c3 := row_cell R1.out 61 (by omega)
            have f3 := row_free R1.out 61 (by omega)
            clear hxs c1 f1 HR H8 HBB
            go_region_held3 (fun u => u.cell? ⟨w.heap.size + 1, 2, none⟩ = some (.int .u8 ((byteOf n 2).toNat : Int))) (go_keep) (first | (go_at_call 57; refine (athead_c _ _).mono ?_; rintro e w' ⟨rfl, rfl⟩) | (go_at_call 58; refine (atfoot_c _ _ (by omega) (by omega)).mono ?_; rintro e w' ⟨rfl, rfl⟩))
            go_wp2_with fail
            go_roundw
            case rel => exact ⟨3, _, by omega, rfl, by rw [List.length_set, h8l], by rw [← fk_succ _ _ 2 (by omega)]; exact (R1.out.drew.set 2 _).set 61 _, (E1.out.drew.other ⟨w.heap.size, 2, none⟩ _ (by simp)).other ⟨w.heap.size, 61, none⟩ _ (by simp), ((B1.out.drew.setCell (p := ⟨w.heap.size, 2, none⟩) (Nat.le_refl _) _).setCell (p := ⟨w.heap.size, 61, none⟩) (Nat.le_refl _) _)⟩
            case measure => simp [intOf]
          · have HV := Lib.hid (show ((n : Int) / 4294967296 % 256 : Int) = ((byteOf n 3).toNat : Int) by unfold byteOf; simp; try omega)
            have c1 := RowAt.cell H8.out 3 (by rw [h8l]; omega)
            have f1 := RowAt.free H8.out 3 (by rw [h8l]; omega)
            go_wp2_with fail
            rw [HV.out]
            have R1 := Lib.hid (show RowAt (wr.setCell ⟨w.heap.size + 1, 3, none⟩ (.int .u8 ((byteOf n 3).toNat : Int))) w.heap.size (row64 (fk n s.data.toList 3)) from HR.out.other _ _ (by simp))
            have E1 := Lib.hid (show RowAt (wr.setCell ⟨w.heap.size + 1, 3, none⟩ (.int .u8 ((byteOf n 3).toNat : Int))) (w.heap.size + 1) (xs.set 3 (.int .u8 ((byteOf n 3).toNat : Int))) from H8.out.set _ _)
            have B1 := Lib.hid (show Below w.heap.size w (wr.setCell ⟨w.heap.size + 1, 3, none⟩ (.int .u8 ((byteOf n 3).toNat : Int))) from HBB.out.setCell (by simp) _)
            generalize wr.setCell ⟨w.heap.size + 1, 3, none⟩ (.int .u8 ((byteOf n 3).toNat : Int)) = W1 at *
            have hxs : (xs.set 3 (.int .u8 ((byteOf n 3).toNat : Int)))[3]'(by rw [List.length_set, h8l]; omega) = .int .u8 ((byteOf n 3).toNat : Int) := by simp
            have d1 := RowAt.cell E1.out 3 (by rw [List.length_set, h8l]; omega)
            rw [hxs] at d1
            have c2 := row_cell R1.out 3 (by omega)
            have f2 := row_free R1.out 3 (by omega)
            have c3 := row_cell R1.out 60 (by omega)
            have f3 := row_free R1.out 60 (by omega)
            clear hxs c1 f1 HR H8 HBB
            go_region_held3 (fun u => u.cell? ⟨w.heap.size + 1, 3, none⟩ = some (.int .u8 ((byteOf n 3).toNat : Int))) (go_keep) (first | (go_at_call 57; refine (athead_c _ _).mono ?_; rintro e w' ⟨rfl, rfl⟩) | (go_at_call 58; refine (atfoot_c _ _ (by omega) (by omega)).mono ?_; rintro e w' ⟨rfl, rfl⟩))
            go_wp2_with fail
            go_roundw
            case rel => exact ⟨4, _, by omega, rfl, by rw [List.length_set, h8l], by rw [← fk_succ _ _ 3 (by omega)]; exact (R1.out.drew.set 3 _).set 60 _, (E1.out.drew.other ⟨w.heap.size, 3, none⟩ _ (by simp)).other ⟨w.heap.size, 60, none⟩ _ (by simp), ((B1.out.drew.setCell (p := ⟨w.heap.size, 3, none⟩) (Nat.le_refl _) _).setCell (p := ⟨w.heap.size, 60, none⟩) (Nat.le_refl _) _)⟩
            case measure => simp [intOf]
          · have HV := Lib.hid (show ((n : Int) / 16777216 % 256 : Int) = ((byteOf n 4).toNat : Int) by unfold byteOf; simp; try omega)
            have c1 := RowAt.cell H8.out 4 (by rw [h8l]; omega)
            have f1 := RowAt.free H8.out 4 (by rw [h8l]; omega)
            go_wp2_with fail
            rw [HV.out]
            have R1 := Lib.hid (show RowAt (wr.setCell ⟨w.heap.size + 1, 4, none⟩ (.int .u8 ((byteOf n 4).toNat : Int))) w.heap.size (row64 (fk n s.data.toList 4)) from HR.out.other _ _ (by simp))
            have E1 := Lib.hid (show RowAt (wr.setCell ⟨w.heap.size + 1, 4, none⟩ (.int .u8 ((byteOf n 4).toNat : Int))) (w.heap.size + 1) (xs.set 4 (.int .u8 ((byteOf n 4).toNat : Int))) from H8.out.set _ _)
            have B1 := Lib.hid (show Below w.heap.size w (wr.setCell ⟨w.heap.size + 1, 4, none⟩ (.int .u8 ((byteOf n 4).toNat : Int))) from HBB.out.setCell (by simp) _)
            generalize wr.setCell ⟨w.heap.size + 1, 4, none⟩ (.int .u8 ((byteOf n 4).toNat : Int)) = W1 at *
            have hxs : (xs.set 4 (.int .u8 ((byteOf n 4).toNat : Int)))[4]'(by rw [List.length_set, h8l]; omega) = .int .u8 ((byteOf n 4).toNat : Int) := by simp
            have d1 := RowAt.cell E1.out 4 (by rw [List.length_set, h8l]; omega)
            rw [hxs] at d1
            have c2 := row_cell R1.out 4 (by omega)
            have f2 := row_free R1.out 4 (by omega)
            have c3 := row_cell R1.out 59 (by omega)
            have f3 := row_free R1.out 59 (by omega)
            clear hxs c1 f1 HR H8 HBB
            go_region_held3 (fun u => u.cell? ⟨w.heap.size + 1, 4, none⟩ = some (.int .u8 ((byteOf n 4).toNat : Int))) (go_keep) (first | (go_at_call 57; refine (athead_c _ _).mono ?_; rintro e w' ⟨rfl, rfl⟩) | (go_at_call 58; refine (atfoot_c _ _ (by omega) (by omega)).mono ?_; rintro e w' ⟨rfl, rfl⟩))
            go_wp2_with fail
            go_roundw
            case rel => exact ⟨5, _, by omega, rfl, by rw [List.length_set, h8l], by rw [← fk_succ _ _ 4 (by omega)]; exact (R1.out.drew.set 4 _).set 59 _, (E1.out.drew.other ⟨w.heap.size, 4, none⟩ _ (by simp)).other ⟨w.heap.size, 59, none⟩ _ (by simp), ((B1.out.drew.setCell (p := ⟨w.heap.size, 4, none⟩) (Nat.le_refl _) _).setCell (p := ⟨w.heap.size, 59, none⟩) (Nat.le_refl _) _)⟩
            case measure => simp [intOf]
          · have HV := Lib.hid (show ((n : Int) / 65536 % 256 : Int) = ((byteOf n 5).toNat : Int) by unfold byteOf; simp; try omega)
            have c1 := RowAt.cell H8.out 5 (by rw [h8l]; omega)
            have f1 := RowAt.free H8.out 5 (by rw [h8l]; omega)
            go_wp2_with fail
            rw [HV.out]
            have R1 := Lib.hid (show RowAt (wr.setCell ⟨w.heap.size + 1, 5, none⟩ (.int .u8 ((byteOf n 5).toNat : Int))) w.heap.size (row64 (fk n s.data.toList 5)) from HR.out.other _ _ (by simp))
            have E1 := Lib.hid (show RowAt (wr.setCell ⟨w.heap.size + 1, 5, none⟩ (.int .u8 ((byteOf n 5).toNat : Int))) (w.heap.size + 1) (xs.set 5 (.int .u8 ((byteOf n 5).toNat : Int))) from H8.out.set _ _)
            have B1 := Lib.hid (show Below w.heap.size w (wr.setCell ⟨w.heap.size + 1, 5, none⟩ (.int .u8 ((byteOf n 5).toNat : Int))) from HBB.out.setCell (by simp) _)
            generalize wr.setCell ⟨w.heap.size + 1, 5, none⟩ (.int .u8 ((byteOf n 5).toNat : Int)) = W1 at *
            have hxs : (xs.set 5 (.int .u8 ((byteOf n 5).toNat : Int)))[5]'(by rw [List.length_set, h8l]; omega) = .int .u8 ((byteOf n 5).toNat : Int) := by simp
            have d1 := RowAt.cell E1.out 5 (by rw [List.length_set, h8l]; omega)
            rw [hxs] at d1
            have c2 := row_cell R1.out 5 (by omega)
            have f2 := row_free R1.out 5 (by omega)
            have c3 := row_cell R1.out 58 (by omega)
            have f3 := row_free R1.out 58 (by omega)
            clear hxs c1 f1 HR H8 HBB
            go_region_held3 (fun u => u.cell? ⟨w.heap.size + 1, 5, none⟩ = some (.int .u8 ((byteOf n 5).toNat : Int))) (go_keep) (first | (go_at_call 57; refine (athead_c _ _).mono ?_; rintro e w' ⟨rfl, rfl⟩) | (go_at_call 58; refine (atfoot_c _ _ (by omega) (by omega)).mono ?_; rintro e w' ⟨rfl, rfl⟩))
            go_wp2_with fail
            go_roundw
            case rel => exact ⟨6, _, by omega, rfl, by rw [List.length_set, h8l], by rw [← fk_succ _ _ 5 (by omega)]; exact (R1.out.drew.set 5 _).set 58 _, (E1.out.drew.other ⟨w.heap.size, 5, none⟩ _ (by simp)).other ⟨w.heap.size, 58, none⟩ _ (by simp), ((B1.out.drew.setCell (p := ⟨w.heap.size, 5, none⟩) (Nat.le_refl _) _).setCell (p := ⟨w.heap.size, 58, none⟩) (Nat.le_refl _) _)⟩
            case measure => simp [intOf]
          · have HV := Lib.hid (show ((n : Int) / 256 % 256 : Int) = ((byteOf n 6).toNat : Int) by unfold byteOf; simp; try omega)
            have c1 := RowAt.cell H8.out 6 (by rw [h8l]; omega)
            have f1 := RowAt.free H8.out 6 (by rw [h8l]; omega)
            go_wp2_with fail
            rw [HV.out]
            have R1 := Lib.hid (show RowAt (wr.setCell ⟨w.heap.size + 1, 6, none⟩ (.int .u8 ((byteOf n 6).toNat : Int))) w.heap.size (row64 (fk n s.data.toList 6)) from HR.out.other _ _ (by simp))
            have E1 := Lib.hid (show RowAt (wr.setCell ⟨w.heap.size + 1, 6, none⟩ (.int .u8 ((byteOf n 6).toNat : Int))) (w.heap.size + 1) (xs.set 6 (.int .u8 ((byteOf n 6).toNat : Int))) from H8.out.set _ _)
            have B1 := Lib.hid (show Below w.heap.size w (wr.setCell ⟨w.heap.size + 1, 6, none⟩ (.int .u8 ((byteOf n 6).toNat : Int))) from HBB.out.setCell (by simp) _)
            generalize wr.setCell ⟨w.heap.size + 1, 6, none⟩ (.int .u8 ((byteOf n 6).toNat : Int)) = W1 at *
            have hxs : (xs.set 6 (.int .u8 ((byteOf n 6).toNat : Int)))[6]'(by rw [List.length_set, h8l]; omega) = .int .u8 ((byteOf n 6).toNat : Int) := by simp
            have d1 := RowAt.cell E1.out 6 (by rw [List.length_set, h8l]; omega)
            rw [hxs] at d1
            have c2 := row_cell R1.out 6 (by omega)
            have f2 := row_free R1.out 6 (by omega)
            have c3 := row_cell R1.out 57 (by omega)
            have f3 := row_free R1.out 57 (by omega)
            clear hxs c1 f1 HR H8 HBB
            go_region_held3 (fun u => u.cell? ⟨w.heap.size + 1, 6, none⟩ = some (.int .u8 ((byteOf n 6).toNat : Int))) (go_keep) (first | (go_at_call 57; refine (athead_c _ _).mono ?_; rintro e w' ⟨rfl, rfl⟩) | (go_at_call 58; refine (atfoot_c _ _ (by omega) (by omega)).mono ?_; rintro e w' ⟨rfl, rfl⟩))
            go_wp2_with fail
            go_roundw
            case rel => exact ⟨7, _, by omega, rfl, by rw [List.length_set, h8l], by rw [← fk_succ _ _ 6 (by omega)]; exact (R1.out.drew.set 6 _).set 57 _, (E1.out.drew.other ⟨w.heap.size, 6, none⟩ _ (by simp)).other ⟨w.heap.size, 57, none⟩ _ (by simp), ((B1.out.drew.setCell (p := ⟨w.heap.size, 6, none⟩) (Nat.le_refl _) _).setCell (p := ⟨w.heap.size, 57, none⟩) (Nat.le_refl _) _)⟩
            case measure => simp [intOf]
          · have HV := Lib.hid (show ((n : Int) % 256 : Int) = ((byteOf n 7).toNat : Int) by unfold byteOf; simp; try omega)
            have c1 := RowAt.cell H8.out 7 (by rw [h8l]; omega)
            have f1 := RowAt.free H8.out 7 (by rw [h8l]; omega)
            go_wp2_with fail
            rw [HV.out]
            have R1 := Lib.hid (show RowAt (wr.setCell ⟨w.heap.size + 1, 7, none⟩ (.int .u8 ((byteOf n 7).toNat : Int))) w.heap.size (row64 (fk n s.data.toList 7)) from HR.out.other _ _ (by simp))
            have E1 := Lib.hid (show RowAt (wr.setCell ⟨w.heap.size + 1, 7, none⟩ (.int .u8 ((byteOf n 7).toNat : Int))) (w.heap.size + 1) (xs.set 7 (.int .u8 ((byteOf n 7).toNat : Int))) from H8.out.set _ _)
            have B1 := Lib.hid (show Below w.heap.size w (wr.setCell ⟨w.heap.size + 1, 7, none⟩ (.int .u8 ((byteOf n 7).toNat : Int))) from HBB.out.setCell (by simp) _)
            generalize wr.setCell ⟨w.heap.size + 1, 7, none⟩ (.int .u8 ((byteOf n 7).toNat : Int)) = W1 at *
            have hxs : (xs.set 7 (.int .u8 ((byteOf n 7).toNat : Int)))[7]'(by rw [List.length_set, h8l]; omega) = .int .u8 ((byteOf n 7).toNat : Int) := by simp
            have d1 := RowAt.cell E1.out 7 (by rw [List.length_set, h8l]; omega)
            rw [hxs] at d1
            have c2 := row_cell R1.out 7 (by omega)
            have f2 := row_free R1.out 7 (by omega)
            have c3 := row_cell R1.out 56 (by omega)
            have f3 := row_free R1.out 56 (by omega)
            clear hxs c1 f1 HR H8 HBB
            go_region_held3 (fun u => u.cell? ⟨w.heap.size + 1, 7, none⟩ = some (.int .u8 ((byteOf n 7).toNat : Int))) (go_keep) (first | (go_at_call 57; refine (athead_c _ _).mono ?_; rintro e w' ⟨rfl, rfl⟩) | (go_at_call 58; refine (atfoot_c _ _ (by omega) (by omega)).mono ?_; rintro e w' ⟨rfl, rfl⟩))
            go_wp2_with fail
            go_roundw
            case rel => exact ⟨8, _, by omega, rfl, by rw [List.length_set, h8l], by rw [← fk_succ _ _ 7 (by omega)]; exact (R1.out.drew.set 7 _).set 56 _, (E1.out.drew.other ⟨w.heap.size, 7, none⟩ _ (by simp)).other ⟨w.heap.size, 56, none⟩ _ (by simp), ((B1.out.drew.setCell (p := ⟨w.heap.size, 7, none⟩) (Nat.le_refl _) _).setCell (p := ⟨w.heap.size, 56, none⟩) (Nat.le_refl _) _)⟩
            case measure => simp [intOf]
        · obtain rfl : k = 8 := by omega
          have hR := HR.out
          rw [fk_done _ _ (by rw [sz_list]; omega)] at hR
          have hcs := row_str (cap := 64) hR
          rw [Lf.leaf_len _ _ (by rw [sz_list]; omega)] at hcs
          have hsl := slice64 w.heap.size wr
          have HC := Lib.hid hR
          clear hR
          go_wp2_with fail
          go_ret2
          unfold PutRes
          rw [HP.out.1, HP.out.2]
          exact ⟨rfl, HBB.out⟩
end Go.Proofs.YtjlncjabiofklaaDoor.Le
end
