/- The contracts of package tally's putters. -/
import Derived.Test.YtialjglgkfcdmaaTcWalks
import Derived.Lib.AppendStr
namespace Go.Proofs.Ytialjglgkfcdmaa.Tal
open Go.RowKit

theorem _root_.Go.Proofs.Ytialjglgkfcdmaa.Try.infoT5 : (Try.prog.info? 5).map (fun i => (i.zero, i.size, i.bytes)) = some (some (.int .u8 0), 1, 1) := by kernel_rfl
/-- A byte's cell. -/
def bv (c : UInt8) : Value := .int .u8 c.toNat
theorem alen : Try.prog.arrayLen 91 = 10 := by kernel_rfl
theorem asize (w : World) : (sizeOf (Try.prog.elem 91)).run Try.prog w = .ok 1 w := by kernel_rfl
theorem aund : Try.prog.underlying 91 = some (.array (Try.prog.arrayLen 91) (Try.prog.elem 91)) := by kernel_rfl
theorem slice10 (b i : Nat) (hi : i ≤ 9) (wx : World) : Sem.run Try.prog (Instr.sliceAt 91 (.pointer (some ⟨b, 0, none⟩)) (some (.int .i64 (i : Int))) none none) wx = .ok (.slice (some ⟨b, i, none⟩) (10 - i) (10 - i)) wx := by
  have h := run_sliceAt_array_l wx 91 ⟨b, 0, none⟩ aund .i64 (i : Int) (by omega) (by rw [alen]; omega)
  rw [asize, alen] at h
  rw [h]
  have h10 : ¬ 10 = i := by omega
  simp [slicedAt, Result.andThen, Addr.add, h10]
  try omega
theorem own_ge {w : World} {base e size n k : Nat} {v : Value} {xs : List Value} (h : w.ownsRow base e size v n xs) (hk : v.ownBlock = some k) : base ≤ k := by
  rcases h.2 with ⟨rfl, _⟩ | ⟨g, cap, cur, rfl, hg, _⟩
  · simp [Value.ownBlock] at hk
  · simp [Value.ownBlock] at hk; omega
theorem u64_127 (x : Nat) (h : x < 18446744073709551616) : bits .and .u64 (x : Int) 127 = (x : Int) % 128 := by
  have := u64_and_nat x 127 h (by omega)
  rw [show ((127 : Nat) : Int) = 127 from rfl] at this
  rw [this, nat_mask7]
  omega
theorem u8_128 (x : Nat) (h : x < 128) : bits .or .u8 128 (x : Int) = 128 + (x : Int) := by
  have := u8_or_nat 128 x (by omega) (by omega)
  rw [nat_join 7 128 x (by omega) (by omega)] at this
  rw [show ((128 : Nat) : Int) = 128 from rfl] at this
  rw [this]; omega
theorem drop_set (C : Array Value) (k : Nat) (v : Value) (h : k < C.size) : (C.setIfInBounds k v).toList.drop k = v :: C.toList.drop (k + 1) := by
  rw [List.drop_eq_getElem_cons (by simpa using h)]
  simp [List.drop_set]
set_option maxRecDepth 100000 in
set_option maxHeartbeats 800000 in
theorem addNum_c (base : Nat) (v : Value) (bs : List UInt8) (n : Nat) (w : World) (hbase : base ≤ w.heap.size) (hown : w.ownsRow base 5 1 v bs.length (bs.map bv)) (hn : n < 18446744073709551616) (hlen : bs.length ≤ 1099511627776) :
    Calls Try.prog 54 #[v, .int .u64 n] w fun e w' => ∃ v', e = .returned v' ∧ w'.ownsRow base 5 1 v' (bs ++ Ta.num n).length ((bs ++ Ta.num n).map bv) ∧ Below base w w' := by
  have HO := Lib.hid hown
  clear hown
  have h127 := u64_127 n hn
  have hlen10 := Ta.num_len n hn
  have hst : Ta.num n = Ta.up (n / 128) ++ [UInt8.ofNat (n % 128)] := rfl
  have HST := Lib.hid hst
  clear hst
  go_enter Try.func54, Try.ntmps54
  go_wp2
  go_loopw [1, 6] (fun s1 s6 wr => ∃ (m i : Nat) (suf : List UInt8) (C : Array Value), s1 = .int .u64 m ∧ s6 = .int .i64 i ∧ i ≤ 9 ∧ suf.length + i = 10 ∧ Ta.num n = Ta.up m ++ suf ∧ m < 18446744073709551616 ∧
      wr = w.alloc (.cells C 91) ∧ C.size = 10 ∧ C.toList.drop i = suf.map bv) (fun s1 _ _ => (intOf s1).toNat)
  case atStart => exact ⟨n / 128, 9, [UInt8.ofNat (n % 128)], _, by simp, rfl, by omega, rfl, HST.out, by omega, rfl, rfl, by simp [bv]; omega⟩
  case round =>
    obtain ⟨m, i, suf, C, rfl, rfl, i9, hl, hnum, hm, rfl, hC, hd⟩ := hrel
    have HN := Lib.hid hnum
    clear hnum h127 HST
    by_cases hm0 : 0 < m
    · have hi : 1 ≤ i := by
        have h1 := congrArg List.length HN.out
        rw [Ta.up_pos hm0] at h1
        simp at h1
        omega
      have HU := Lib.hid (Ta.up_pos hm0)
      obtain ⟨k, rfl⟩ : ∃ k, i = k + 1 := ⟨i - 1, by omega⟩
      obtain ⟨v0, hcell⟩ : ∃ v0, (w.alloc (.cells C 91)).cell? ⟨w.heap.size, k, none⟩ = some v0 := ⟨C[k], by rw [World.cell?_alloc_at _ _ _ _ rfl]; simp⟩
      obtain ⟨m', rfl⟩ : ∃ m', m = m' + 1 := ⟨m - 1, by omega⟩
      have h1 := u64_127 m' (by omega)
      have h2 : bits .or .u8 128 ((m' : Int) % 128) = 128 + (m' : Int) % 128 := by have := u8_128 (m' % 128) (by omega); rwa [show ((m' % 128 : Nat) : Int) = (m' : Int) % 128 by omega] at this
      have HC := Lib.hid hC
      have HD := Lib.hid hd
      clear hC hd hm0
      go_wp2
      exact ⟨⟨m' / 128, k, UInt8.ofNat (128 + m' % 128) :: suf, _, by simp, rfl, by omega, by simp; omega, by rw [HN.out, HU.out]; simp, by omega, rfl, by simp [HC.out], by rw [drop_set _ _ _ (by rw [HC.out]; omega), HD.out]; simp [bv]; omega⟩, by simp [intOf]; omega⟩
    · obtain rfl : m = 0 := by omega
      have hC' := Lib.hid hC
      have hd' := Lib.hid hd
      have hl' : suf.length = 10 - i := by omega
      have HL := Lib.hid hl'
      obtain ⟨i0, hi, hz0, hz1, hz2⟩ := info_parts Try.infoT5
      have hsl := slice10 w.heap.size i i9
      clear hC hd hl' hl
      go_wp2_with (at_builtin; refine wpList_append_own _ rfl _ _ 78 rfl base 5 i0 (.int .u8 0) 1 1 Try.underlying78 hi hz0 hz1 hz2 rfl (by decide) _ _ _ rfl (HO.out.alloc _) ⟨w.heap.size, i, none⟩ (10 - i) (10 - i) (suf.map bv) rfl ?c0 ?c1 ?c2 ?c3 ?c4 ?c5 ?_)
      case c0 => simp [HL.out]
      case c1 =>
        intro j u hj
        have hcj : C.toList[i + j]? = some u := by rw [← List.getElem?_drop, hd'.out]; exact hj
        rw [Go.WideShapes.add_plain, World.cell?_alloc_at _ _ _ _ rfl]
        simpa using hcj
      case c2 => intro u hu; simp at hu; obtain ⟨c, _, rfl⟩ := hu; rfl
      case c3 => unfold maxLen; omega
      case c4 => omega
      case c5 => simp; omega
      intro v' w' hown' hgrow _
      go_wp2
      go_ret
      have hN : Ta.num n = suf := by rw [HN.out, Ta.up_zero]; rfl
      refine ⟨v', rfl, ?_, ((Below.refl base w).alloc hbase _).grown hgrow (by simp; omega) (fun k hk => own_ge HO.out hk)⟩
      rw [hN]
      simpa [HL.out] using hown'
end Go.Proofs.Ytialjglgkfcdmaa.Tal
