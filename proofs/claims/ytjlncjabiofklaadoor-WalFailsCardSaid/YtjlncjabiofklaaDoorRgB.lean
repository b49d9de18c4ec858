/- Joined: TsWalks TsPut TsPut2 TsPut3 TsRow TsTake. -/
import Derived.Test.YtjlncjabiofklaaDoorRows
import Derived.Test.YtjlncjabiofklaaDoorRgA
import Derived.WalkKit
import Derived.WalkSpells
import Derived.WalkLawsBesides
import Derived.Lib.Hide
import Derived.Lib.EndianBits
import Derived.Lib.VarintBits
import Derived.Laws.BitsAllLaws
import Derived.Lib.Strings
import Derived.Lib.IndexBytes
import Derived.Lib.Zigzag
import Derived.Deep.LoopGhost
import Derived.BigQuiet
import Derived.Deep.QuietTactic
import Derived.Lib.AppendStr
import Derived.Laws.IdiomStrings
import Derived.Lib.BufferRead
section
namespace Go.Proofs.YtjlncjabiofklaaDoor.Tal
open Go.RowKit

theorem ret_isb {j : IntKind} {a b : Int} {s t : ByteArray} {c d : Bool} (h : a = b) (h' : s = t) (h'' : c = d) : Ending.returned (.tuple #[.int j a, .string s, .bool c]) = .returned (.tuple #[.int j b, .string t, .bool d]) := by rw [h, h', h'']

/-- What a taker of a number answers. -/
def NumRes (o : Option (Nat × List UInt8)) (w : World) (e : Ending) (w' : World) : Prop :=
  e = .returned (.tuple #[.int .u64 (match o with | some (n, _) => (n : Int) | none => 0), .string ⟨(match o with | some (_, r) => r | none => []).toArray⟩, .bool o.isSome]) ∧ Below w.heap.size w w'

theorem or_128 (a c : Nat) (ha : a ≤ 144115188075855871) : bits .or .u64 ((a : Int) * 128) ((c : Int) % 128) = (a : Int) * 128 + (c : Int) % 128 := by
  have := u64_or_nat (a * 128) (c % 128) (by omega) (by omega)
  rw [nat_join 7 (a * 128) (c % 128) (by omega) (by omega)] at this
  have e1 : ((a * 128 : Nat) : Int) = (a : Int) * 128 := by omega
  have e2 : ((c % 128 : Nat) : Int) = (c : Int) % 128 := by omega
  rw [e1, e2] at this
  omega
theorem ext_drop (s : ByteArray) (k : Nat) : s.extract k s.size = ⟨(s.data.toList.drop k).toArray⟩ := by
  apply ByteArray.ext
  apply Array.ext'
  have h := Lib.extract_to_end s k
  simpa using h
theorem take_step (l : List UInt8) (acc : Nat) (c : UInt8) (k : Nat) (h : k < l.length) (hc : l[k] = c) : Ta.take acc (l.drop k) = Ta.take acc (c :: l.drop (k + 1)) := by
  rw [List.drop_eq_getElem_cons h, hc]

set_option maxRecDepth 100000 in
set_option maxHeartbeats 800000 in
theorem takeNum_c (s : ByteArray) (w : World) (hs : s.size ≤ maxLen) :
    Calls Tryd.prog 48 #[.string s] w (NumRes (Ta.take 0 s.data.toList) w) := by
  unfold maxLen at hs
  go_enter Tryd.func48, Tryd.ntmps48
  go_wp2
  go_step3
  go_wp2
  go_step3
  go_wp2
  go_loop [2, 8] (fun n i => ∃ (k acc : Nat), k ≤ s.size ∧ i = .int .i64 k ∧ n = .int .u64 acc ∧ acc < 18446744073709551616 ∧ Ta.take 0 s.data.toList = Ta.take acc (s.data.toList.drop k)) (fun _ i => s.size - (intOf i).toNat)
  case atStart => exact ⟨0, 0, by omega, rfl, rfl, by omega, rfl⟩
  case round =>
    obtain ⟨k, acc, hk, rfl, rfl, ha, HT0⟩ := hrel
    have HT := Lib.hid HT0
    clear HT0
    by_cases hlt : k < s.size
    · by_cases hbig : 144115188075855871 < acc
      · go_wp2
        go_ret3
        rw [HT.out, Ta.take_big _ _ (by omega)]
        exact ⟨rfl, Below.refl _ _⟩
      · have hb : s[k].toNat < 256 := s[k].toNat_lt
        have e1 := u8_and127 (x := (s[k].toNat : Int)) (by omega) (by omega)
        have e2 := or_128 acc s[k].toNat (by omega)
        have HD := Lib.hid (take_step s.data.toList acc s[k] k (by simpa using hlt) (by simp; rfl))
        by_cases hc : (s[k].toNat : Int) < 128
        · go_wp2
          go_quiet (fail)
          go_wp2
          go_ret3
          rw [HT.out, HD.out, Ta.take_end _ _ _ (by omega) (by omega)]
          refine ⟨ret_isb (by simp; omega) (ext_drop _ _) rfl, ⟨rfl, rfl, rfl, Nat.le_refl _, fun _ _ => rfl⟩⟩
        · by_cases hf : (acc : Int) * 128 + (s[k].toNat : Int) % 128 = 18446744073709551615
          · have HF := Lib.hid (show acc * 128 + s[k].toNat % 128 = 18446744073709551615 by omega)
            have hf' : ((acc : Int) * 128 + (s[k].toNat : Int) % 128 == 18446744073709551615) = true := beq_iff_eq.2 hf
            clear hf
            go_wp2
            go_ret3
            rw [HT.out, HD.out, Ta.take_full _ _ _ (by omega) (by omega) HF.out]
            exact ⟨rfl, Below.refl _ _⟩
          · have HF := Lib.hid (show acc * 128 + s[k].toNat % 128 ≠ 18446744073709551615 by omega)
            have hf' : ((acc : Int) * 128 + (s[k].toNat : Int) % 128 == 18446744073709551615) = false := beq_eq_false_iff_ne.2 hf
            have hlt' : acc * 128 + s[k].toNat % 128 + 1 < 18446744073709551616 := by omega
            clear hf
            go_wp2
            go_round
            case rel => exact ⟨k + 1, acc * 128 + s[k].toNat % 128 + 1, by omega, by go_num, by simp, hlt', by rw [HT.out, HD.out, Ta.take_on _ _ _ (by omega) (by omega) HF.out]⟩
            case measure => simp [intOf]; omega
    · obtain rfl : k = s.size := by omega
      go_wp2
      go_ret3
      rw [HT.out, List.drop_of_length_le (by simp)]
      exact ⟨rfl, Below.refl _ _⟩

/-- The integer of a number. -/
def unz (m : Nat) : Int := if m % 2 = 0 then (m / 2 : Nat) else -((m / 2 : Nat) : Int) - 1
def IntRes (o : Option (Nat × List UInt8)) (w : World) (e : Ending) (w' : World) : Prop :=
  e = .returned (.tuple #[.int .i64 (match o with | some (n, _) => unz n | none => 0), .string ⟨(match o with | some (_, r) => r | none => []).toArray⟩, .bool o.isSome]) ∧ Below w.heap.size w w'
theorem i64_xor0 (x : Nat) (hx : x < 9223372036854775808) : bits .xor .i64 (x : Int) 0 = x := by
  have e1 : (BitVec.ofInt 64 (x : Int)).toNat = x := by rw [BitVec.ofInt_natCast, BitVec.toNat_ofNat]; exact Nat.mod_eq_of_lt (by omega)
  show IntKind.i64.wrap ((BitVec.ofInt 64 (x : Int) ^^^ BitVec.ofInt 64 0).toNat : Int) = _
  rw [show BitVec.ofInt 64 0 = 0#64 by decide, BitVec.xor_zero, e1, IntKind.wrap_i64]
  omega
theorem i64_xor1 (x : Nat) (hx : x < 9223372036854775808) : bits .xor .i64 (x : Int) (-1) = -(x : Int) - 1 := by
  have := Lib.i64_not x hx
  rw [← this]
  show IntKind.i64.wrap ((BitVec.ofInt 64 (x : Int) ^^^ BitVec.ofInt 64 (-1)).toNat : Int) = IntKind.i64.wrap ((BitVec.ofInt 64 (-1) ^^^ BitVec.ofInt 64 (x : Int)).toNat : Int)
  rw [BitVec.xor_comm]

/-- What a taker of a string answers. -/
def TextRes (o : Option (List UInt8 × List UInt8)) (w : World) (e : Ending) (w' : World) : Prop :=
  e = .returned (.tuple #[.string ⟨(match o with | some (x, _) => x | none => []).toArray⟩, .string ⟨(match o with | some (_, r) => r | none => []).toArray⟩, .bool o.isSome]) ∧ Below w.heap.size w w'
theorem ret_ssb {a b s t : ByteArray} {c d : Bool} (h : a = b) (h' : s = t) (h'' : c = d) : Ending.returned (.tuple #[.string a, .string s, .bool c]) = .returned (.tuple #[.string b, .string t, .bool d]) := by rw [h, h', h'']
theorem ext_mk_drop (r : List UInt8) (k : Nat) : (ByteArray.mk r.toArray).extract k (ByteArray.mk r.toArray).size = ⟨(r.drop k).toArray⟩ := ext_drop ⟨r.toArray⟩ k
theorem ext_mk_take (r : List UInt8) (k : Nat) : (ByteArray.mk r.toArray).extract 0 k = ⟨(r.take k).toArray⟩ := by
  apply ByteArray.ext
  apply Array.ext'
  simp
set_option maxRecDepth 100000 in
set_option maxHeartbeats 800000 in
theorem takeText_c (s : ByteArray) (w : World) (hs : s.size ≤ maxLen) :
    Calls Tryd.prog 50 #[.string s] w (TextRes (Ta.takeText s.data.toList) w) := by
  cases hT : Ta.take 0 s.data.toList with
  | none =>
    have HX := Lib.hid (show Ta.takeText s.data.toList = none by unfold Ta.takeText; rw [hT])
    have K := Lib.hid (hT ▸ takeNum_c s w hs)
    clear hT hs
    go_enter Tryd.func50, Tryd.ntmps50
    go_wp2_with fail
    refine K.out.mono ?_
    rintro e w1 ⟨rfl, b1⟩
    go_wp2_with fail
    go_ret3
    rw [HX.out]
    exact ⟨rfl, b1⟩
  | some x =>
    obtain ⟨n, r⟩ := x
    have hn := Ta.take_bound _ _ _ _ hT
    have hrl : r.length ≤ 9223372036854775807 := by
      have : s.data.toList.length = s.size := by simp
      unfold maxLen at hs; omega
    have K := Lib.hid (hT ▸ takeNum_c s w hs)
    by_cases hp : r.length < n
    · have HX := Lib.hid (show Ta.takeText s.data.toList = none by unfold Ta.takeText; rw [hT]; simp; omega)
      have hp' : (r.length : Int) < (n : Int) := by omega
      clear hT hs hn
      go_enter Tryd.func50, Tryd.ntmps50
      go_wp2_with fail
      refine K.out.mono ?_
      rintro e w1 ⟨rfl, b1⟩
      go_wp2_with fail
      go_ret3
      rw [HX.out]
      exact ⟨rfl, b1⟩
    · have HX := Lib.hid (show Ta.takeText s.data.toList = some (r.take n, r.drop n) by unfold Ta.takeText; rw [hT]; simp; omega)
      have hp' : ¬ (r.length : Int) < (n : Int) := by omega
      have hp2 : n ≤ r.length := by omega
      clear hT hs hn hp
      go_enter Tryd.func50, Tryd.ntmps50
      go_wp2_with fail
      refine K.out.mono ?_
      rintro e w1 ⟨rfl, b1⟩
      go_wp2_with fail
      go_quiet (fail)
      go_wp2_with fail
      go_ret3
      rw [HX.out]
      exact ⟨ret_ssb (ext_mk_take _ _) (ext_mk_drop _ _) rfl, b1.trans ⟨rfl, rfl, rfl, Nat.le_refl _, fun _ _ => rfl⟩⟩
end Go.Proofs.YtjlncjabiofklaaDoor.Tal
end
section
namespace Go.Proofs.YtjlncjabiofklaaDoor.Tal
open Go.RowKit

theorem _root_.Go.Proofs.YtjlncjabiofklaaDoor.Tryd.info5 : (Tryd.prog.info? 5).map (fun i => (i.zero, i.size, i.bytes)) = some (some (.int .u8 0), 1, 1) := by kernel_rfl
/-- A byte's cell. -/
def bv (c : UInt8) : Value := .int .u8 c.toNat
theorem alen : Tryd.prog.arrayLen 118 = 10 := by kernel_rfl
theorem asize (w : World) : (sizeOf (Tryd.prog.elem 118)).run Tryd.prog w = .ok 1 w := by kernel_rfl
theorem aund : Tryd.prog.underlying 118 = some (.array (Tryd.prog.arrayLen 118) (Tryd.prog.elem 118)) := by kernel_rfl
theorem slice10 (b i : Nat) (hi : i ≤ 9) (wx : World) : Sem.run Tryd.prog (Instr.sliceAt 118 (.pointer (some ⟨b, 0, none⟩)) (some (.int .i64 (i : Int))) none none) wx = .ok (.slice (some ⟨b, i, none⟩) (10 - i) (10 - i)) wx := by
  have h := run_sliceAt_array_l wx 118 ⟨b, 0, none⟩ aund .i64 (i : Int) (by omega) (by rw [alen]; omega)
  rw [asize, alen] at h
  rw [h]
  have h10 : ¬ 10 = i := by omega
  simp [slicedAt, Result.andThen, Addr.add, h10]
  try omega
theorem own_ge {w : World} {base e size n k : Nat} {v : Value} {xs : List Value} (h : w.ownsRow base e size v n xs) (hk : v.ownBlock = some k) : base ≤ k := by
  rcases h.2 with ⟨rfl, _⟩ | ⟨g, cap, cur, rfl, hg, _⟩
  · simp [Value.ownBlock] at hk
  · simp [Value.ownBlock] at hk; omega
theorem u64_127 (x : Nat) (h : x < 18446744073709551616) : bits .and .u64 (x : Int) 127 = (x : Int) % 128 := by
  have := u64_and_nat x 127 h (by omega)
  rw [show ((127 : Nat) : Int) = 127 from rfl] at this
  rw [this, nat_mask7]
  omega
theorem u8_128 (x : Nat) (h : x < 128) : bits .or .u8 128 (x : Int) = 128 + (x : Int) := by
  have := u8_or_nat 128 x (by omega) (by omega)
  rw [nat_join 7 128 x (by omega) (by omega)] at this
  rw [show ((128 : Nat) : Int) = 128 from rfl] at this
  rw [this]; omega
theorem drop_set (C : Array Value) (k : Nat) (v : Value) (h : k < C.size) : (C.setIfInBounds k v).toList.drop k = v :: C.toList.drop (k + 1) := by
  rw [List.drop_eq_getElem_cons (by simpa using h)]
  simp [List.drop_set]
set_option maxRecDepth 100000 in
set_option maxHeartbeats 800000 in
theorem addNum_c (base : Nat) (v : Value) (bs : List UInt8) (n : Nat) (w : World) (hbase : base ≤ w.heap.size) (hown : w.ownsRow base 5 1 v bs.length (bs.map bv)) (hn : n < 18446744073709551616) (hlen : bs.length ≤ 1099511627776) :
    Calls Tryd.prog 51 #[v, .int .u64 n] w fun e w' => ∃ v', e = .returned v' ∧ w'.ownsRow base 5 1 v' (bs ++ Ta.num n).length ((bs ++ Ta.num n).map bv) ∧ Below base w w' := by
  have HO := Lib.hid hown
  clear hown
  have h127 := u64_127 n hn
  have hlen10 := Ta.num_len n hn
  have hst : Ta.num n = Ta.up (n / 128) ++ [UInt8.ofNat (n % 128)] := rfl
  have HST := Lib.hid hst
  clear hst
  go_enter Tryd.func51, Tryd.ntmps51
  go_wp2
  go_loopw [1, 6] (fun s1 s6 wr => ∃ (m i : Nat) (suf : List UInt8) (C : Array Value), s1 = .int .u64 m ∧ s6 = .int .i64 i ∧ i ≤ 9 ∧ suf.length + i = 10 ∧ Ta.num n = Ta.up m ++ suf ∧ m < 18446744073709551616 ∧
      wr = w.alloc (.cells C 118) ∧ C.size = 10 ∧ C.toList.drop i = suf.map bv) (fun s1 _ _ => (intOf s1).toNat)
  case atStart => exact ⟨n / 128, 9, [UInt8.ofNat (n % 128)], _, by simp, rfl, by omega, rfl, HST.out, by omega, rfl, rfl, by simp [bv]; omega⟩
  case round =>
    obtain ⟨m, i, suf, C, rfl, rfl, i9, hl, hnum, hm, rfl, hC, hd⟩ := hrel
    have HN := Lib.hid hnum
    clear hnum h127 HST
    by_cases hm0 : 0 < m
    · have hi : 1 ≤ i := by
        have h1 := congrArg List.length HN.out
        rw [Ta.up_pos hm0] at h1
        simp at h1
        omega
      have HU := Lib.hid (Ta.up_pos hm0)
      obtain ⟨k, rfl⟩ : ∃ k, i = k + 1 := ⟨i - 1, by omega⟩
      obtain ⟨v0, hcell⟩ : ∃ v0, (w.alloc (.cells C 118)).cell? ⟨w.heap.size, k, none⟩ = some v0 := ⟨C[k], by rw [World.cell?_alloc_at _ _ _ _ rfl]; simp⟩
      obtain ⟨m', rfl⟩ : ∃ m', m = m' + 1 := ⟨m - 1, by omega⟩
      have h1 := u64_127 m' (by omega)
      have h2 : bits .or .u8 128 ((m' : Int) % 128) = 128 + (m' : Int) % 128 := by have := u8_128 (m' % 128) (by omega); rwa [show ((m' % 128 : Nat) : Int) = (m' : Int) % 128 by omega] at this
      have HC := Lib.hid hC
      have HD := Lib.hid hd
      clear hC hd hm0
      go_wp2
      exact ⟨⟨m' / 128, k, UInt8.ofNat (128 + m' % 128) :: suf, _, by simp, rfl, by omega, by simp; omega, by rw [HN.out, HU.out]; simp, by omega, rfl, by simp [HC.out], by rw [drop_set _ _ _ (by rw [HC.out]; omega), HD.out]; simp [bv]; omega⟩, by simp [intOf]; omega⟩
    · obtain rfl : m = 0 := by omega
      have hC' := Lib.hid hC
      have hd' := Lib.hid hd
      have hl' : suf.length = 10 - i := by omega
      have HL := Lib.hid hl'
      obtain ⟨i0, hi, hz0, hz1, hz2⟩ := info_parts Tryd.info5
      have hsl := slice10 w.heap.size i i9
      clear hC hd hl' hl
      go_wp2_with (at_builtin; refine wpList_append_own _ rfl _ _ 71 rfl base 5 i0 (.int .u8 0) 1 1 Tryd.underlying71 hi hz0 hz1 hz2 rfl (by decide) _ _ _ rfl (HO.out.alloc _) ⟨w.heap.size, i, none⟩ (10 - i) (10 - i) (suf.map bv) rfl ?c0 ?c1 ?c2 ?c3 ?c4 ?c5 ?_)
      case c0 => simp [HL.out]
      case c1 =>
        intro j u hj
        have hcj : C.toList[i + j]? = some u := by rw [← List.getElem?_drop, hd'.out]; exact hj
        rw [Go.WideShapes.add_plain, World.cell?_alloc_at _ _ _ _ rfl]
        simpa using hcj
      case c2 => intro u hu; simp at hu; obtain ⟨c, _, rfl⟩ := hu; rfl
      case c3 => unfold maxLen; omega
      case c4 => omega
      case c5 => simp; omega
      intro v' w' hown' hgrow _
      go_wp2
      go_ret
      have hN : Ta.num n = suf := by rw [HN.out, Ta.up_zero]; rfl
      refine ⟨v', rfl, ?_, ((Below.refl base w).alloc hbase _).grown hgrow (by simp; omega) (fun k hk => own_ge HO.out hk)⟩
      rw [hN]
      simpa [HL.out] using hown'
end Go.Proofs.YtjlncjabiofklaaDoor.Tal
end
section
namespace Go.Proofs.YtjlncjabiofklaaDoor.Tal
open Go.RowKit

theorem und_bytes : Tryd.prog.underlying 71 = some (.slice 5) := by kernel_rfl
theorem und_u8 : Tryd.prog.underlying 5 = some (.int .u8) := by kernel_rfl
theorem und_str : Tryd.prog.underlying 9 = some .string := by kernel_rfl
/-- 'string(b)' of an owned row. -/
theorem own_str {w : World} {base : Nat} {v : Value} {l : List UInt8} (h : w.ownsRow base 5 1 v l.length (l.map bv)) :
    (convert 71 9 v).run Tryd.prog w = .ok (.string ⟨l.toArray⟩) w := by
  rcases h.2 with ⟨rfl, h0⟩ | ⟨g, cap, cur, rfl, hg, hrest⟩
  · have hl : l = [] := by
      have := h.1
      simp at h0
      exact h0
    subst hl
    exact Lib.run_convert_nil_bytes w _ _ _ 0 und_bytes und_u8 und_str
  · refine run_convert_bytes_back w _ _ _ ⟨g, 0, none⟩ cap l und_bytes und_u8 und_str ?_
    intro j hj
    exact h.cells rfl j (.int .u8 l[j].toNat) (by simp [bv, hj])

/-- What a putter answers. -/
def PutRes (l : List UInt8) (w : World) (e : Ending) (w' : World) : Prop := e = .returned (.string ⟨l.toArray⟩) ∧ Below w.heap.size w w'

theorem xor_hi (a : Nat) (ha : a < 18446744073709551616) : bits .xor .u64 (a : Int) 18446744073709551615 = 18446744073709551615 - (a : Int) := by
  have h := u64_xor_nat a 18446744073709551615 ha (by omega)
  rw [show ((18446744073709551615 : Nat) : Int) = 18446744073709551615 from rfl] at h
  rw [h, Nat.xor_comm, show (18446744073709551615 : Nat) = 2 ^ 64 - 1 from rfl, Lib.xor_ones64 a (by omega)]
  omega
theorem xor_lo (a : Nat) (ha : a < 18446744073709551616) : bits .xor .u64 (a : Int) 0 = (a : Int) := by
  have h := u64_xor_nat a 0 ha (by omega)
  rw [show ((0 : Nat) : Int) = 0 from rfl] at h
  rw [h, Nat.xor_zero]
/-- The number of an integer. -/
def zig (n : Int) : Nat := if n < 0 then (-n - 1).toNat * 2 + 1 else n.toNat * 2
theorem zig_lt (n : Int) (h0 : -9223372036854775808 ≤ n) (h1 : n ≤ 9223372036854775807) : zig n < 18446744073709551616 := by
  unfold zig; split <;> omega
theorem unz_zig (n : Int) : unz (zig n) = n := by
  unfold unz zig
  split <;> split <;> omega
theorem zig_unz (m : Nat) : zig (unz m) = m := by
  unfold unz zig
  split <;> split <;> omega
theorem unz_range (m : Nat) (h : m < 18446744073709551616) : -9223372036854775808 ≤ unz m ∧ unz m ≤ 9223372036854775807 := by
  unfold unz
  split <;> omega

end Go.Proofs.YtjlncjabiofklaaDoor.Tal
end
section
namespace Go.Proofs.YtjlncjabiofklaaDoor.Tal
open Go.RowKit

set_option maxRecDepth 100000 in
theorem long_c (n : Nat) (w : World) (hn : n < 18446744073709551616) :
    Calls Tryd.prog 70 #[.int .u64 n] w fun e w' => e = .returned (.int .i64 (Ta.num n).length) ∧ Below w.heap.size w w' := by
  have HL := Lib.hid (Ta.num_len n hn)
  have HST := Lib.hid (show (Ta.num n).length = 1 + (Ta.up (n / 128)).length by unfold Ta.num; simp; omega)
  go_enter Tryd.func70, Tryd.ntmps70
  go_wp2
  go_loop [0, 3] (fun n1 many => ∃ (m k : Nat), n1 = .int .u64 m ∧ many = .int .i64 k ∧ m < 18446744073709551616 ∧ (Ta.num n).length = k + (Ta.up m).length) (fun n1 _ => (intOf n1).toNat)
  case atStart => exact ⟨n / 128, 1, by simp, rfl, by omega, HST.out⟩
  case round =>
    obtain ⟨m, k, rfl, rfl, hm, hlen0⟩ := hrel
    have hk : k ≤ 10 := by have := HL.out.1; omega
    have hlen := Lib.hid hlen0
    clear hlen0
    by_cases hm0 : 0 < m
    · have HU := Lib.hid (Ta.up_pos hm0)
      obtain ⟨m', rfl⟩ : ∃ m', m = m' + 1 := ⟨m - 1, by omega⟩
      clear hm0
      go_wp2
      go_round
      case rel => exact ⟨m' / 128, k + 1, by simp, by simp, by omega, by rw [hlen.out, HU.out]; simp; omega⟩
      case measure => simp [intOf]; omega
    · obtain rfl : m = 0 := by omega
      go_wp2
      go_ret
      exact ⟨by rw [hlen.out, Ta.up_zero]; simp, Below.refl _ _⟩

/-- The bytes of a string. -/
def txt (s : List UInt8) : List UInt8 := Ta.num s.length ++ s
theorem strCells_bv (s : ByteArray) : Lib.strCells s = s.data.toList.map bv := rfl
set_option maxRecDepth 100000 in
theorem addText_c (base : Nat) (v : Value) (bs : List UInt8) (s : ByteArray) (w : World) (hbase : base ≤ w.heap.size) (hown : w.ownsRow base 5 1 v bs.length (bs.map bv)) (hlen : bs.length + s.size ≤ 1099511627776) :
    Calls Tryd.prog 52 #[v, .string s] w fun e w' => ∃ v', e = .returned v' ∧ w'.ownsRow base 5 1 v' (bs ++ txt s.data.toList).length ((bs ++ txt s.data.toList).map bv) ∧ Below base w w' := by
  have hnl := Ta.num_len s.size (by omega)
  have HO := Lib.hid hown
  have K := Lib.hid (addNum_c base v bs s.size w hbase hown (by omega) (by omega))
  obtain ⟨i0, hi, hz0, hz1, hz2⟩ := info_parts Tryd.info5
  clear hown
  have hs : s.size ≤ 9223372036854775807 := by omega
  go_enter Tryd.func52, Tryd.ntmps52
  go_wp2_with fail
  refine K.out.mono ?_
  rintro e w1 ⟨v1, rfl, hv, b1⟩
  have HV := Lib.hid hv
  clear hv
  go_wp2_with (at_builtin; refine Lib.wpList_append_own_string _ rfl _ _ 71 9 rfl base 5 i0 und_bytes und_str hi hz0 hz1 hz2 _ _ _ rfl HV.out s rfl ?c1 ?c2 ?c3 ?_)
  case c1 => unfold maxLen; simp; omega
  case c2 => simp; omega
  case c3 => exact Nat.le_trans hbase b1.size
  intro v' w' hown' hgrow _
  go_wp2
  go_ret
  refine ⟨v', rfl, ?_, b1.grown hgrow (Nat.le_trans hbase b1.size) (fun k hk => own_ge HV.out hk)⟩
  rw [strCells_bv] at hown'
  simpa [txt, Nat.add_assoc] using hown'

set_option maxRecDepth 100000 in
theorem text_c (s : ByteArray) (w : World) (hs : s.size ≤ 1099511627776) :
    Calls Tryd.prog 65 #[.string s] w (PutRes (txt s.data.toList) w) := by
  have K := Lib.hid (addText_c w.heap.size (.slice none 0 0) [] s w (Nat.le_refl _) (World.ownsRow_nil w _ _ _) (by simpa using hs))
  clear hs
  go_enter Tryd.func65, Tryd.ntmps65
  go_wp2_with fail
  refine K.out.mono ?_
  rintro e w1 ⟨v, rfl, hv, b1⟩
  have hc := own_str hv
  simp only [List.nil_append] at hc
  go_wp2_with fail
  go_ret
  exact ⟨rfl, b1⟩
end Go.Proofs.YtjlncjabiofklaaDoor.Tal
end
section
namespace Go.Proofs.YtjlncjabiofklaaDoor.Tal
open Go.RowKit

def txts : List ByteArray → List UInt8
  | [] => []
  | s :: L => txt s.data.toList ++ txts L
def row (L : List ByteArray) : List UInt8 := Ta.num L.length ++ txts L
def total (L : List ByteArray) : Nat := (L.map ByteArray.size).sum
theorem txts_append (L M : List ByteArray) : txts (L ++ M) = txts L ++ txts M := by
  induction L with
  | nil => rfl
  | cons s L ih => simp [txts, ih]
theorem txt_len (s : List UInt8) (h : s.length < 18446744073709551616) : (txt s).length ≤ 10 + s.length := by
  have := Ta.num_len s.length h
  unfold txt; simp; omega
theorem txts_len (L : List ByteArray) (h : ∀ s ∈ L, s.size < 18446744073709551616) : (txts L).length ≤ 10 * L.length + total L := by
  induction L with
  | nil => simp [txts]
  | cons s L ih =>
    have h1 := ih (fun x hx => h x (by simp [hx]))
    have h2 := txt_len s.data.toList (by have := h s (by simp); simpa using this)
    have h3 : s.data.toList.length = s.size := by simp
    simp [txts, total] at *
    omega
theorem total_take (L : List ByteArray) (k : Nat) : total (L.take k) ≤ total L := by
  have h : total L = total (L.take k) + total (L.drop k) := by
    unfold total
    rw [← List.sum_append, ← List.map_append, List.take_append_drop]
  omega
theorem total_mem (L : List ByteArray) (s : ByteArray) (h : s ∈ L) : s.size ≤ total L := by
  induction L with
  | nil => simp at h
  | cons t L ih =>
    rcases List.mem_cons.1 h with rfl | h
    · simp [total]
    · have := ih h; simp [total] at *; omega
theorem txts_take (L : List ByteArray) (k : Nat) (h : k < L.length) : txts (L.take (k + 1)) = txts (L.take k) ++ txt L[k].data.toList := by
  rw [List.take_succ_eq_append_getElem h, txts_append]
  simp [txts]


/-- A slice of strings: its cells. -/
def Strs (w : World) (a : Option Addr) (L : List ByteArray) : Prop :=
  ∀ j (h : j < L.length), ∃ b off, a = some ⟨b, off, none⟩ ∧ b < w.heap.size ∧ w.cell? ⟨b, off + j, none⟩ = some (.string L[j])
theorem Strs.later {w w' : World} {a : Option Addr} {L : List ByteArray} (h : Strs w a L) (hb : Below w.heap.size w w') : Strs w' a L := by
  intro j hj
  obtain ⟨b, off, ha, hlt, hc⟩ := h j hj
  exact ⟨b, off, ha, Nat.lt_of_lt_of_le hlt hb.size, by rw [hb.cell (by simpa using hlt)]; exact hc⟩
set_option maxRecDepth 100000 in
set_option maxHeartbeats 800000 in
theorem row_c (w : World) (a : Option Addr) (cap : Nat) (L : List ByteArray) (hL : Strs w a L) (hl : L.length ≤ 1073741824) (ht : total L ≤ 1073741824) :
    Calls Tryd.prog 38 #[.slice a L.length cap] w (PutRes (row L) w) := by
  have K := Lib.hid (addNum_c w.heap.size (.slice none 0 0) [] L.length w (Nat.le_refl _) (World.ownsRow_nil w _ _ _) (by omega) (by simp))
  have HT := Lib.hid ht
  have HLS := Lib.hid hL
  clear ht hL
  go_enter Tryd.func38, Tryd.ntmps38
  go_wp2_with fail
  refine K.out.mono ?_
  rintro e w1 ⟨v, rfl, hv, b1⟩
  have HV := Lib.hid hv
  have HB := Lib.hid b1
  clear hv b1 K
  go_wp2_with fail
  go_loopw [3, 12] (fun s3 s12 wr => ∃ k : Nat, k ≤ L.length ∧ s12 = .int .i64 k ∧ wr.ownsRow w.heap.size 5 1 s3 (Ta.num L.length ++ txts (L.take k)).length ((Ta.num L.length ++ txts (L.take k)).map bv) ∧ Below w.heap.size w wr) (fun _ s12 _ => L.length - (intOf s12).toNat)
  case atStart => exact ⟨0, by omega, rfl, by simpa [txts] using HV.out, HB.out⟩
  case round =>
    obtain ⟨k, hk, rfl, hown, hB⟩ := hrel
    have HO := Lib.hid hown
    have HB2 := Lib.hid hB
    clear hown hB HV HB
    by_cases hlt : k < L.length
    · obtain ⟨b, off, rfl, hb, hcell0⟩ := HLS.out k hlt
      have hcell := Lib.hid (show _ = _ from (HB2.out.cell (p := ⟨b, off + k, none⟩) (by simpa using hb)).trans hcell0)
      clear hcell0
      have hcell := hcell.out
      have hbd : (Ta.num L.length ++ txts (L.take k)).length + L[k].size ≤ 1099511627776 := by
        have h1 := Ta.num_len L.length (by omega)
        have h2 := txts_len (L.take k) (fun x hx => by have := total_mem L x (List.mem_of_mem_take hx); have := HT.out; omega)
        have h3 := total_take L k
        have h4 := total_mem L L[k] (by simp)
        have h5 := HT.out
        simp at h2 ⊢
        omega
      have K2 := Lib.hid (fun v h => addText_c w.heap.size v _ L[k] _ HB2.out.size h hbd)
      clear hbd
      go_wp2_with fail
      refine (K2.out _ HO.out).mono ?_
      rintro e w2 ⟨v2, rfl, hv2, b2⟩
      go_wp2_with fail
      go_round
      case rel => exact ⟨k + 1, by omega, by simp, by rw [txts_take L k hlt, ← List.append_assoc]; exact hv2, HB2.out.trans b2⟩
      case measure => simp [intOf]; omega
    · obtain rfl : k = L.length := by omega
      have hc := own_str HO.out
      rw [List.take_length] at hc
      go_wp2_with fail
      go_ret
      exact ⟨rfl, HB2.out⟩
end Go.Proofs.YtjlncjabiofklaaDoor.Tal
end
section
namespace Go.Proofs.YtjlncjabiofklaaDoor.Tal
open Go.RowKit
def takeN : Nat → List (List UInt8) → List UInt8 → Option (List (List UInt8) × List UInt8)
  | 0, acc, b => some (acc, b)
  | n + 1, acc, b => match Ta.takeText b with | none => none | some (x, r) => takeN n (acc ++ [x]) r
def takeRow (b : List UInt8) : Option (List (List UInt8) × List UInt8) :=
  match Ta.take 0 b with
  | none => none
  | some (n, r) => if n ≤ r.length then takeN n [] r else none
def sv (x : List UInt8) : Value := .string ⟨x.toArray⟩
def restOf : Option (List (List UInt8) × List UInt8) → List UInt8
  | some (_, r) => r
  | none => []
def listOf : Option (List (List UInt8) × List UInt8) → List (List UInt8)
  | some (l, _) => l
  | none => []
def RowRes (o : Option (List (List UInt8) × List UInt8)) (w : World) (e : Ending) (w' : World) : Prop :=
  ∃ v, e = .returned (.tuple #[v, .string ⟨(restOf o).toArray⟩, .bool o.isSome]) ∧ Below w.heap.size w w' ∧
    w'.ownsRow w.heap.size 9 1 v (listOf o).length ((listOf o).map sv)
theorem _root_.Go.Proofs.YtjlncjabiofklaaDoor.Tryd.info9 : (Tryd.prog.info? 9).map (fun i => (i.zero, i.size, i.bytes)) = some (some (.string ⟨#[]⟩), 1, 16) := by kernel_rfl
theorem own_lower {w : World} {base base' e size n : Nat} {v : Value} {xs : List Value} (h : w.ownsRow base e size v n xs) (hb : base' ≤ base) : w.ownsRow base' e size v n xs := by
  refine ⟨h.1, ?_⟩
  rcases h.2 with h | ⟨g, cap, cur, h1, h2, h3⟩
  · exact .inl h
  · exact .inr ⟨g, cap, cur, h1, Nat.le_trans hb h2, h3⟩
theorem own_later {w w' : World} {base e size n : Nat} {v : Value} {xs : List Value} (h : w.ownsRow base e size v n xs) (hb : Below w.heap.size w w') : w'.ownsRow base e size v n xs := by
  refine h.kept (row := none) ⟨hb.os, hb.tape, hb.output, hb.size, fun k hk _ => hb.block k hk⟩ ?_
  cases hv : v.ownBlock with
  | none => exact .inl rfl
  | some k => exact .inr (by simp)
theorem takeText_len (b x r : List UInt8) (h : Ta.takeText b = some (x, r)) : x.length + r.length < b.length := by
  unfold Ta.takeText at h
  split at h
  · rename_i n r0 h0
    have := Ta.take_bound _ _ _ _ h0
    split at h
    · simp only [Option.some.injEq, Prod.mk.injEq] at h
      obtain ⟨rfl, rfl⟩ := h
      simp; omega
    · simp at h
  · simp at h
set_option maxRecDepth 100000 in
set_option maxHeartbeats 1600000 in
theorem many_c (n : Nat) (s : ByteArray) (w : World) (hn : n ≤ s.size) (hs : s.size ≤ 1073741824) :
    Calls Tryd.prog 49 #[.string s, .int .u64 n, .func (.func 50) #[] #[]] w (RowRes (takeN n [] s.data.toList) w) := by
  have hn64 : n < 18446744073709551616 := by omega
  have HS := Lib.hid hs
  have HN := Lib.hid hn
  have hsz : s.size ≤ 9223372036854775807 := by omega
  obtain ⟨i0, hi, hz0, hz1, hz2⟩ := info_parts Tryd.info9
  clear hs
  go_enter Tryd.func49, Tryd.ntmps49
  go_wp2_with fail
  rw [show decide (s.size < n) = false from decide_eq_false (by omega)]
  clear hn
  go_loopw [0, 9, 19] (fun s0 s9 s19 wr => ∃ (k : Nat) (r : ByteArray) (acc : List (List UInt8)), k ≤ n ∧ acc.length = k ∧ r.size ≤ s.size ∧ s19 = .int .u64 k ∧ s0 = .string r ∧ takeN n [] s.data.toList = takeN (n - k) acc r.data.toList ∧ wr.ownsRow w.heap.size 9 1 s9 acc.length (acc.map sv) ∧ Below w.heap.size w wr) (fun _ _ s19 _ => n - (intOf s19).toNat)
  case atStart => exact ⟨0, s, [], by omega, rfl, by omega, rfl, rfl, rfl, World.ownsRow_nil _ _ _ _, Below.refl _ _⟩
  case round =>
    obtain ⟨k, r, acc, hk, hka, hrs, rfl, rfl, htk, hown, hB⟩ := hrel
    have HT := Lib.hid htk
    have HO := Lib.hid hown
    have HB := Lib.hid hB
    have HA := Lib.hid hka
    clear htk hown hB hka
    by_cases hlt : k < n
    · cases hX : Ta.takeText r.data.toList with
      | none =>
        have HE := Lib.hid (show takeN (n - k) acc r.data.toList = none by rw [show n - k = (n - k - 1) + 1 by omega, takeN, hX])
        have K := Lib.hid (hX ▸ takeText_c r wr (by have := HS.out; unfold maxLen; omega))
        clear hX
        go_wp2_with fail
        refine K.out.mono ?_
        rintro e w1 ⟨rfl, b1⟩
        go_wp2_with fail
        go_ret3
        rw [HT.out, HE.out]
        exact ⟨_, rfl, HB.out.trans (b1.mono HB.out.size), World.ownsRow_nil _ _ _ _⟩
      | some y =>
        obtain ⟨x, r'⟩ := y
        have hxl := takeText_len _ _ _ hX
        have HE := Lib.hid (show takeN (n - k) acc r.data.toList = takeN (n - (k + 1)) (acc ++ [x]) r' by rw [show n - k = (n - (k + 1)) + 1 by omega, takeN, hX])
        have K := Lib.hid (hX ▸ takeText_c r wr (by have := HS.out; unfold maxLen; omega))
        have hr' : r'.length ≤ s.size := by simp at hxl; omega
        clear hX hxl
        go_wp2_with fail
        refine K.out.mono ?_
        rintro e w1 ⟨rfl, b1⟩
        have HO1 := Lib.hid (own_later HO.out b1)
        go_wp2_with (at_builtin; refine wpList_append_own _ rfl _ _ 35 rfl w.heap.size 9 i0 (.string ⟨#[]⟩) 1 16 Tryd.underlying35 hi hz0 hz1 hz2 rfl (by decide) _ _ _ rfl (HO1.out.alloc _) ⟨w1.heap.size, 0, none⟩ 1 1 [sv x] rfl ?c0 ?c1 ?c2 ?c3 ?c4 ?c5 ?_)
        case c0 => rfl
        case c1 =>
          intro j u hj
          cases j with
          | zero => simp at hj; subst hj; rw [Go.WideShapes.add_plain, World.cell?_alloc_at _ _ _ _ rfl]; rfl
          | succ j => simp at hj
        case c2 => intro u hu; simp at hu; subst hu; rfl
        case c3 => have h1 := HA.out; have h2 := HN.out; have h3 := HS.out; unfold maxLen; omega
        case c4 => have h1 := HA.out; have h2 := HN.out; have h3 := HS.out; omega
        case c5 => have h1 := HB.out.size; have h2 := b1.size; simp; omega
        intro v' w' hown' hgrow _
        go_wp2_with fail
        go_round
        case rel =>
          have h1 := HB.out.size
          have h2 := b1.size
          exact ⟨k + 1, ⟨r'.toArray⟩, acc ++ [x], by omega, by simp [HA.out], hr', by simp, rfl, by rw [HT.out, HE.out], by simpa using hown',
            ((HB.out.trans (b1.mono h1)).alloc (by omega) _).grown hgrow (by simp; omega) (fun k hk => own_ge HO.out hk)⟩
        case measure => simp [intOf]; omega
    · obtain rfl : k = n := by omega
      go_wp2_with fail
      go_ret3
      rw [HT.out, Nat.sub_self, takeN]
      exact ⟨_, rfl, HB.out, HO.out⟩
set_option maxRecDepth 100000 in
theorem many_big (n : Nat) (s : ByteArray) (w : World) (hn : s.size < n) (hs : s.size ≤ 1073741824) :
    Calls Tryd.prog 49 #[.string s, .int .u64 n, .func (.func 50) #[] #[]] w (RowRes none w) := by
  go_enter Tryd.func49, Tryd.ntmps49
  go_wp2_with fail
  go_ret3
  exact ⟨_, rfl, Below.refl _ _, World.ownsRow_nil _ _ _ _⟩
set_option maxRecDepth 100000 in
theorem takeRow_c (s : ByteArray) (w : World) (hs : s.size ≤ 1073741824) :
    Calls Tryd.prog 36 #[.string s] w (RowRes (takeRow s.data.toList) w) := by
  cases hT : Ta.take 0 s.data.toList with
  | none =>
    have HX := Lib.hid (show takeRow s.data.toList = none by unfold takeRow; rw [hT])
    have K := Lib.hid (hT ▸ takeNum_c s w (by unfold maxLen; omega))
    clear hT hs
    go_enter Tryd.func36, Tryd.ntmps36
    go_wp2_with fail
    refine K.out.mono ?_
    rintro e w1 ⟨rfl, b1⟩
    go_wp2_with fail
    go_ret3
    rw [HX.out]
    exact ⟨_, rfl, b1, World.ownsRow_nil _ _ _ _⟩
  | some x =>
    obtain ⟨n, r⟩ := x
    have hb := Ta.take_bound _ _ _ _ hT
    have hrs : r.length ≤ 1073741824 := by have : s.data.toList.length = s.size := by simp
                                           omega
    have K := Lib.hid (hT ▸ takeNum_c s w (by unfold maxLen; omega))
    have HX0 : (∀ w1, Calls Tryd.prog 49 #[.string ⟨r.toArray⟩, .int .u64 n, .func (.func 50) #[] #[]] w1 (RowRes (takeRow s.data.toList) w1)) := by
      intro w1
      unfold takeRow
      rw [hT]
      by_cases hp : n ≤ r.length
      · simp only [if_pos hp]
        exact many_c n ⟨r.toArray⟩ w1 hp hrs
      · simp only [if_neg hp]
        exact many_big n ⟨r.toArray⟩ w1 (by show r.length < n; omega) hrs
    have HX := Lib.hid HX0
    clear hT hb hrs hs HX0
    go_enter Tryd.func36, Tryd.ntmps36
    go_wp2_with fail
    refine K.out.mono ?_
    rintro e w1 ⟨rfl, b1⟩
    go_wp2_with fail
    refine (HX.out w1).mono ?_
    rintro e w2 ⟨v, rfl, b2, hv⟩
    go_wp2_with fail
    go_ret3
    exact ⟨v, rfl, b1.trans (b2.mono b1.size), own_lower hv b1.size⟩
end Go.Proofs.YtjlncjabiofklaaDoor.Tal
end
