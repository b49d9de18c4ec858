/- Joined: TaPut TaPut2 TaPut3 TaRow TaTake. -/
import Derived.Test.YtnblilonjpfdnaaTaWalks
import Derived.Lib.AppendStr
import Derived.Laws.IdiomStrings
import Derived.Lib.BufferRead
section
namespace Go.Proofs.Ytnblilonjpfdnaa.Tal
open Go.RowKit

theorem _root_.Go.Proofs.Ytnblilonjpfdnaa.Try.infoT5 : (Try.prog.info? 5).map (fun i => (i.zero, i.size, i.bytes)) = some (some (.int .u8 0), 1, 1) := by kernel_rfl
/-- A byte's cell. -/
def bv (c : UInt8) : Value := .int .u8 c.toNat
theorem alen : Try.prog.arrayLen 152 = 10 := by kernel_rfl
theorem asize (w : World) : (sizeOf (Try.prog.elem 152)).run Try.prog w = .ok 1 w := by kernel_rfl
theorem aund : Try.prog.underlying 152 = some (.array (Try.prog.arrayLen 152) (Try.prog.elem 152)) := by kernel_rfl
theorem slice10 (b i : Nat) (hi : i ≤ 9) (wx : World) : Sem.run Try.prog (Instr.sliceAt 152 (.pointer (some ⟨b, 0, none⟩)) (some (.int .i64 (i : Int))) none none) wx = .ok (.slice (some ⟨b, i, none⟩) (10 - i) (10 - i)) wx := by
  have h := run_sliceAt_array_l wx 152 ⟨b, 0, none⟩ aund .i64 (i : Int) (by omega) (by rw [alen]; omega)
  rw [asize, alen] at h
  rw [h]
  have h10 : ¬ 10 = i := by omega
  simp [slicedAt, Result.andThen, Addr.add, h10]
  try omega
theorem own_ge {w : World} {base e size n k : Nat} {v : Value} {xs : List Value} (h : w.ownsRow base e size v n xs) (hk : v.ownBlock = some k) : base ≤ k := by
  rcases h.2 with ⟨rfl, _⟩ | ⟨g, cap, cur, rfl, hg, _⟩
  · simp [Value.ownBlock] at hk
  · simp [Value.ownBlock] at hk; omega
theorem u64_127 (x : Nat) (h : x < 18446744073709551616) : bits .and .u64 (x : Int) 127 = (x : Int) % 128 := by
  have := u64_and_nat x 127 h (by omega)
  rw [show ((127 : Nat) : Int) = 127 from rfl] at this
  rw [this, nat_mask7]
  omega
theorem u8_128 (x : Nat) (h : x < 128) : bits .or .u8 128 (x : Int) = 128 + (x : Int) := by
  have := u8_or_nat 128 x (by omega) (by omega)
  rw [nat_join 7 128 x (by omega) (by omega)] at this
  rw [show ((128 : Nat) : Int) = 128 from rfl] at this
  rw [this]; omega
theorem drop_set (C : Array Value) (k : Nat) (v : Value) (h : k < C.size) : (C.setIfInBounds k v).toList.drop k = v :: C.toList.drop (k + 1) := by
  rw [List.drop_eq_getElem_cons (by simpa using h)]
  simp [List.drop_set]
set_option maxRecDepth 100000 in
set_option maxHeartbeats 800000 in
theorem addNum_c (base : Nat) (v : Value) (bs : List UInt8) (n : Nat) (w : World) (hbase : base ≤ w.heap.size) (hown : w.ownsRow base 5 1 v bs.length (bs.map bv)) (hn : n < 18446744073709551616) (hlen : bs.length ≤ 1099511627776) :
    Calls Try.prog 86 #[v, .int .u64 n] w fun e w' => ∃ v', e = .returned v' ∧ w'.ownsRow base 5 1 v' (bs ++ Ta.num n).length ((bs ++ Ta.num n).map bv) ∧ Below base w w' := by
  have HO := Lib.hid hown
  clear hown
  have h127 := u64_127 n hn
  have hlen10 := Ta.num_len n hn
  have hst : Ta.num n = Ta.up (n / 128) ++ [UInt8.ofNat (n % 128)] := rfl
  have HST := Lib.hid hst
  clear hst
  go_enter Try.func86, Try.ntmps86
  go_wp2
  go_loopw [1, 6] (fun s1 s6 wr => ∃ (m i : Nat) (suf : List UInt8) (C : Array Value), s1 = .int .u64 m ∧ s6 = .int .i64 i ∧ i ≤ 9 ∧ suf.length + i = 10 ∧ Ta.num n = Ta.up m ++ suf ∧ m < 18446744073709551616 ∧
      wr = w.alloc (.cells C 152) ∧ C.size = 10 ∧ C.toList.drop i = suf.map bv) (fun s1 _ _ => (intOf s1).toNat)
  case atStart => exact ⟨n / 128, 9, [UInt8.ofNat (n % 128)], _, by simp, rfl, by omega, rfl, HST.out, by omega, rfl, rfl, by simp [bv]; omega⟩
  case round =>
    obtain ⟨m, i, suf, C, rfl, rfl, i9, hl, hnum, hm, rfl, hC, hd⟩ := hrel
    have HN := Lib.hid hnum
    clear hnum h127 HST
    by_cases hm0 : 0 < m
    · have hi : 1 ≤ i := by
        have h1 := congrArg List.length HN.out
        rw [Ta.up_pos hm0] at h1
        simp at h1
        omega
      have HU := Lib.hid (Ta.up_pos hm0)
      obtain ⟨k, rfl⟩ : ∃ k, i = k + 1 := ⟨i - 1, by omega⟩
      obtain ⟨v0, hcell⟩ : ∃ v0, (w.alloc (.cells C 152)).cell? ⟨w.heap.size, k, none⟩ = some v0 := ⟨C[k], by rw [World.cell?_alloc_at _ _ _ _ rfl]; simp⟩
      obtain ⟨m', rfl⟩ : ∃ m', m = m' + 1 := ⟨m - 1, by omega⟩
      have h1 := u64_127 m' (by omega)
      have h2 : bits .or .u8 128 ((m' : Int) % 128) = 128 + (m' : Int) % 128 := by have := u8_128 (m' % 128) (by omega); rwa [show ((m' % 128 : Nat) : Int) = (m' : Int) % 128 by omega] at this
      have HC := Lib.hid hC
      have HD := Lib.hid hd
      clear hC hd hm0
      go_wp2
      exact ⟨⟨m' / 128, k, UInt8.ofNat (128 + m' % 128) :: suf, _, by simp, rfl, by omega, by simp; omega, by rw [HN.out, HU.out]; simp, by omega, rfl, by simp [HC.out], by rw [drop_set _ _ _ (by rw [HC.out]; omega), HD.out]; simp [bv]; omega⟩, by simp [intOf]; omega⟩
    · obtain rfl : m = 0 := by omega
      have hC' := Lib.hid hC
      have hd' := Lib.hid hd
      have hl' : suf.length = 10 - i := by omega
      have HL := Lib.hid hl'
      obtain ⟨i0, hi, hz0, hz1, hz2⟩ := info_parts Try.infoT5
      have hsl := slice10 w.heap.size i i9
      clear hC hd hl' hl
      go_wp2_with (at_builtin; refine wpList_append_own _ rfl _ _ 138 rfl base 5 i0 (.int .u8 0) 1 1 Try.underlying138 hi hz0 hz1 hz2 rfl (by decide) _ _ _ rfl (HO.out.alloc _) ⟨w.heap.size, i, none⟩ (10 - i) (10 - i) (suf.map bv) rfl ?c0 ?c1 ?c2 ?c3 ?c4 ?c5 ?_)
      case c0 => simp [HL.out]
      case c1 =>
        intro j u hj
        have hcj : C.toList[i + j]? = some u := by rw [← List.getElem?_drop, hd'.out]; exact hj
        rw [Go.WideShapes.add_plain, World.cell?_alloc_at _ _ _ _ rfl]
        simpa using hcj
      case c2 => intro u hu; simp at hu; obtain ⟨c, _, rfl⟩ := hu; rfl
      case c3 => unfold maxLen; omega
      case c4 => omega
      case c5 => simp; omega
      intro v' w' hown' hgrow _
      go_wp2
      go_ret
      have hN : Ta.num n = suf := by rw [HN.out, Ta.up_zero]; rfl
      refine ⟨v', rfl, ?_, ((Below.refl base w).alloc hbase _).grown hgrow (by simp; omega) (fun k hk => own_ge HO.out hk)⟩
      rw [hN]
      simpa [HL.out] using hown'
end Go.Proofs.Ytnblilonjpfdnaa.Tal
end
section
namespace Go.Proofs.Ytnblilonjpfdnaa.Tal
open Go.RowKit

theorem und_bytes : Try.prog.underlying 138 = some (.slice 5) := by kernel_rfl
theorem und_u8 : Try.prog.underlying 5 = some (.int .u8) := by kernel_rfl
theorem und_str : Try.prog.underlying 9 = some .string := by kernel_rfl
/-- 'string(b)' of an owned row. -/
theorem own_str {w : World} {base : Nat} {v : Value} {l : List UInt8} (h : w.ownsRow base 5 1 v l.length (l.map bv)) :
    (convert 138 9 v).run Try.prog w = .ok (.string ⟨l.toArray⟩) w := by
  rcases h.2 with ⟨rfl, h0⟩ | ⟨g, cap, cur, rfl, hg, hrest⟩
  · have hl : l = [] := by
      have := h.1
      simp at h0
      exact h0
    subst hl
    exact Lib.run_convert_nil_bytes w _ _ _ 0 und_bytes und_u8 und_str
  · refine run_convert_bytes_back w _ _ _ ⟨g, 0, none⟩ cap l und_bytes und_u8 und_str ?_
    intro j hj
    exact h.cells rfl j (.int .u8 l[j].toNat) (by simp [bv, hj])

/-- What a putter answers. -/
def PutRes (l : List UInt8) (w : World) (e : Ending) (w' : World) : Prop := e = .returned (.string ⟨l.toArray⟩) ∧ Below w.heap.size w w'

set_option maxRecDepth 100000 in
theorem num_c (n : Nat) (w : World) (hn : n < 18446744073709551616) :
    Calls Try.prog 62 #[.int .u64 n] w (PutRes (Ta.num n) w) := by
  have K := Lib.hid (addNum_c w.heap.size (.slice none 0 0) [] n w (Nat.le_refl _) (World.ownsRow_nil w _ _ _) hn (by simp))
  clear hn
  go_enter Try.func62, Try.ntmps62
  go_wp2_with fail
  refine K.out.mono ?_
  rintro e w1 ⟨v, rfl, hv, b1⟩
  have hc := own_str hv
  simp only [List.nil_append] at hc
  go_wp2_with fail
  go_ret
  exact ⟨rfl, b1⟩

theorem xor_hi (a : Nat) (ha : a < 18446744073709551616) : bits .xor .u64 (a : Int) 18446744073709551615 = 18446744073709551615 - (a : Int) := by
  have h := u64_xor_nat a 18446744073709551615 ha (by omega)
  rw [show ((18446744073709551615 : Nat) : Int) = 18446744073709551615 from rfl] at h
  rw [h, Nat.xor_comm, show (18446744073709551615 : Nat) = 2 ^ 64 - 1 from rfl, Lib.xor_ones64 a (by omega)]
  omega
theorem xor_lo (a : Nat) (ha : a < 18446744073709551616) : bits .xor .u64 (a : Int) 0 = (a : Int) := by
  have h := u64_xor_nat a 0 ha (by omega)
  rw [show ((0 : Nat) : Int) = 0 from rfl] at h
  rw [h, Nat.xor_zero]
/-- The number of an integer. -/
def zig (n : Int) : Nat := if n < 0 then (-n - 1).toNat * 2 + 1 else n.toNat * 2
theorem zig_lt (n : Int) (h0 : -9223372036854775808 ≤ n) (h1 : n ≤ 9223372036854775807) : zig n < 18446744073709551616 := by
  unfold zig; split <;> omega
theorem unz_zig (n : Int) : unz (zig n) = n := by
  unfold unz zig
  split <;> split <;> omega
theorem zig_unz (m : Nat) : zig (unz m) = m := by
  unfold unz zig
  split <;> split <;> omega
theorem unz_range (m : Nat) (h : m < 18446744073709551616) : -9223372036854775808 ≤ unz m ∧ unz m ≤ 9223372036854775807 := by
  unfold unz
  split <;> omega

set_option maxRecDepth 100000 in
theorem int_c (n : Int) (w : World) (h0 : -9223372036854775808 ≤ n) (h1 : n ≤ 9223372036854775807) :
    Calls Try.prog 63 #[.int .i64 n] w (PutRes (Ta.num (zig n)) w) := by
  have K := Lib.hid (num_c (zig n) w (zig_lt n h0 h1))
  by_cases hn : n < 0
  · obtain ⟨m, rfl⟩ : ∃ m : Nat, n = -(m : Int) - 1 := ⟨(-n - 1).toNat, by omega⟩
    have e1 : IntKind.u64.wrap (IntKind.u64.wrap (-(m : Int) - 1) * 2) = ((18446744073709551614 - 2 * m : Nat) : Int) := by
      rw [IntKind.wrap_u64, IntKind.wrap_u64]; omega
    have e2 : (-(m : Int) - 1) / 9223372036854775808 = -1 := by omega
    have e3 := xor_hi (18446744073709551614 - 2 * m) (by omega)
    have HZ := Lib.hid (show ((zig (-(m : Int) - 1) : Nat) : Int) = 18446744073709551615 - ((18446744073709551614 - 2 * m : Nat) : Int) by unfold zig; rw [if_pos (by omega)]; omega)
    rw [← HZ.out] at e3
    replace e3 : bits .xor .u64 ((18446744073709551614 - 2 * m : Nat) : Int) (IntKind.u64.wrap (-1)) = ((zig (-(m : Int) - 1) : Nat) : Int) := e3
    clear h0 h1 hn HZ
    go_enter Try.func63, Try.ntmps63
    go_wp2_with fail
    refine K.out.mono ?_
    rintro e w1 ⟨rfl, b1⟩
    go_wp2_with fail
    go_ret
    exact ⟨rfl, b1⟩
  · obtain ⟨m, rfl⟩ : ∃ m : Nat, n = (m : Int) := ⟨n.toNat, by omega⟩
    have e2 : (m : Int) / 9223372036854775808 = 0 := by omega
    have e3 := xor_lo (m * 2) (by omega)
    have HZ := Lib.hid (show ((zig (m : Int) : Nat) : Int) = ((m * 2 : Nat) : Int) by unfold zig; rw [if_neg (by omega)]; omega)
    rw [← HZ.out] at e3
    replace e3 : bits .xor .u64 ((m : Int) * 2) 0 = ((zig (m : Int) : Nat) : Int) := by rw [← e3]; norm_cast
    clear h0 hn HZ
    go_enter Try.func63, Try.ntmps63
    go_wp2_with fail
    refine K.out.mono ?_
    rintro e w1 ⟨rfl, b1⟩
    go_wp2_with fail
    go_ret
    exact ⟨rfl, b1⟩
end Go.Proofs.Ytnblilonjpfdnaa.Tal
end
section
namespace Go.Proofs.Ytnblilonjpfdnaa.Tal
open Go.RowKit

/-- The bytes of a string. -/
def txt (s : List UInt8) : List UInt8 := Ta.num s.length ++ s
theorem strCells_bv (s : ByteArray) : Lib.strCells s = s.data.toList.map bv := rfl
end Go.Proofs.Ytnblilonjpfdnaa.Tal
end
section
namespace Go.Proofs.Ytnblilonjpfdnaa.Tal
open Go.RowKit

def txts : List ByteArray → List UInt8
  | [] => []
  | s :: L => txt s.data.toList ++ txts L
def row (L : List ByteArray) : List UInt8 := Ta.num L.length ++ txts L
def total (L : List ByteArray) : Nat := (L.map ByteArray.size).sum
theorem txts_append (L M : List ByteArray) : txts (L ++ M) = txts L ++ txts M := by
  induction L with
  | nil => rfl
  | cons s L ih => simp [txts, ih]
theorem txt_len (s : List UInt8) (h : s.length < 18446744073709551616) : (txt s).length ≤ 10 + s.length := by
  have := Ta.num_len s.length h
  unfold txt; simp; omega
theorem txts_len (L : List ByteArray) (h : ∀ s ∈ L, s.size < 18446744073709551616) : (txts L).length ≤ 10 * L.length + total L := by
  induction L with
  | nil => simp [txts]
  | cons s L ih =>
    have h1 := ih (fun x hx => h x (by simp [hx]))
    have h2 := txt_len s.data.toList (by have := h s (by simp); simpa using this)
    have h3 : s.data.toList.length = s.size := by simp
    simp [txts, total] at *
    omega
theorem total_take (L : List ByteArray) (k : Nat) : total (L.take k) ≤ total L := by
  have h : total L = total (L.take k) + total (L.drop k) := by
    unfold total
    rw [← List.sum_append, ← List.map_append, List.take_append_drop]
  omega
theorem total_mem (L : List ByteArray) (s : ByteArray) (h : s ∈ L) : s.size ≤ total L := by
  induction L with
  | nil => simp at h
  | cons t L ih =>
    rcases List.mem_cons.1 h with rfl | h
    · simp [total]
    · have := ih h; simp [total] at *; omega
theorem txts_take (L : List ByteArray) (k : Nat) (h : k < L.length) : txts (L.take (k + 1)) = txts (L.take k) ++ txt L[k].data.toList := by
  rw [List.take_succ_eq_append_getElem h, txts_append]
  simp [txts]


/-- A slice of strings: its cells. -/
def Strs (w : World) (a : Option Addr) (L : List ByteArray) : Prop :=
  ∀ j (h : j < L.length), ∃ b off, a = some ⟨b, off, none⟩ ∧ b < w.heap.size ∧ w.cell? ⟨b, off + j, none⟩ = some (.string L[j])
theorem Strs.later {w w' : World} {a : Option Addr} {L : List ByteArray} (h : Strs w a L) (hb : Below w.heap.size w w') : Strs w' a L := by
  intro j hj
  obtain ⟨b, off, ha, hlt, hc⟩ := h j hj
  exact ⟨b, off, ha, Nat.lt_of_lt_of_le hlt hb.size, by rw [hb.cell (by simpa using hlt)]; exact hc⟩
end Go.Proofs.Ytnblilonjpfdnaa.Tal
end
section
namespace Go.Proofs.Ytnblilonjpfdnaa.Tal
open Go.RowKit
def takeN : Nat → List (List UInt8) → List UInt8 → Option (List (List UInt8) × List UInt8)
  | 0, acc, b => some (acc, b)
  | n + 1, acc, b => match Ta.takeText b with | none => none | some (x, r) => takeN n (acc ++ [x]) r
def takeRow (b : List UInt8) : Option (List (List UInt8) × List UInt8) :=
  match Ta.take 0 b with
  | none => none
  | some (n, r) => if n ≤ r.length then takeN n [] r else none
def sv (x : List UInt8) : Value := .string ⟨x.toArray⟩
def restOf : Option (List (List UInt8) × List UInt8) → List UInt8
  | some (_, r) => r
  | none => []
def listOf : Option (List (List UInt8) × List UInt8) → List (List UInt8)
  | some (l, _) => l
  | none => []
def RowRes (o : Option (List (List UInt8) × List UInt8)) (w : World) (e : Ending) (w' : World) : Prop :=
  ∃ v, e = .returned (.tuple #[v, .string ⟨(restOf o).toArray⟩, .bool o.isSome]) ∧ Below w.heap.size w w' ∧
    w'.ownsRow w.heap.size 9 1 v (listOf o).length ((listOf o).map sv)
theorem _root_.Go.Proofs.Ytnblilonjpfdnaa.Try.info9 : (Try.prog.info? 9).map (fun i => (i.zero, i.size, i.bytes)) = some (some (.string ⟨#[]⟩), 1, 16) := by kernel_rfl
theorem own_lower {w : World} {base base' e size n : Nat} {v : Value} {xs : List Value} (h : w.ownsRow base e size v n xs) (hb : base' ≤ base) : w.ownsRow base' e size v n xs := by
  refine ⟨h.1, ?_⟩
  rcases h.2 with h | ⟨g, cap, cur, h1, h2, h3⟩
  · exact .inl h
  · exact .inr ⟨g, cap, cur, h1, Nat.le_trans hb h2, h3⟩
theorem own_later {w w' : World} {base e size n : Nat} {v : Value} {xs : List Value} (h : w.ownsRow base e size v n xs) (hb : Below w.heap.size w w') : w'.ownsRow base e size v n xs := by
  refine h.kept (row := none) ⟨hb.os, hb.tape, hb.output, hb.size, fun k hk _ => hb.block k hk⟩ ?_
  cases hv : v.ownBlock with
  | none => exact .inl rfl
  | some k => exact .inr (by simp)
theorem takeText_len (b x r : List UInt8) (h : Ta.takeText b = some (x, r)) : x.length + r.length < b.length := by
  unfold Ta.takeText at h
  split at h
  · rename_i n r0 h0
    have := Ta.take_bound _ _ _ _ h0
    split at h
    · simp only [Option.some.injEq, Prod.mk.injEq] at h
      obtain ⟨rfl, rfl⟩ := h
      simp; omega
    · simp at h
  · simp at h
end Go.Proofs.Ytnblilonjpfdnaa.Tal
end
