/- Package tally: what was put is taken. -/
import Derived.Test.YtehofpmkplkaaaaTaBack
import Derived.Test.YtehofpmkplkaaaaTaOnce
namespace Go.Proofs.Ytehofpmkplkaaaa.Tal
open Go.RowKit
theorem cat_list (x : List UInt8) (t : ByteArray) : ((⟨x.toArray⟩ : ByteArray) ++ t).data.toList = x ++ t.data.toList := by simp
theorem cat_size (x : List UInt8) (t : ByteArray) : ((⟨x.toArray⟩ : ByteArray) ++ t).size = x.length + t.size := by rw [ByteArray.size_append]; rfl
theorem lists_of (L : List ByteArray) : bas (L.map fun s => s.data.toList) = L := by
  induction L with
  | nil => rfl
  | cons s L ih =>
    show (⟨s.data.toList.toArray⟩ : ByteArray) :: bas (L.map fun s => s.data.toList) = s :: L
    rw [ih]
theorem back_num (n : Nat) (t : ByteArray) (w : World) (hn : n < 18446744073709551616) (ht : t.size ≤ 3000) :
    Calls Try.prog 25 #[.string ((⟨(Ta.num n).toArray⟩ : ByteArray) ++ t)] w fun e w' => e = .returned (.tuple #[.int .u64 n, .string t, .bool true]) ∧ Below w.heap.size w w' := by
  have h := takeNum_c ((⟨(Ta.num n).toArray⟩ : ByteArray) ++ t) w (by rw [cat_size]; have := Ta.num_len n hn; unfold maxLen; omega)
  rw [cat_list, Ta.take_back n _ hn] at h
  exact h
theorem back_int (i : Int) (t : ByteArray) (w : World) (h0 : -9223372036854775808 ≤ i) (h1 : i ≤ 9223372036854775807) (ht : t.size ≤ 3000) :
    Calls Try.prog 27 #[.string ((⟨(Ta.num (zig i)).toArray⟩ : ByteArray) ++ t)] w fun e w' => e = .returned (.tuple #[.int .i64 i, .string t, .bool true]) ∧ Below w.heap.size w w' := by
  have hn := zig_lt i h0 h1
  have h := takeInt_c ((⟨(Ta.num (zig i)).toArray⟩ : ByteArray) ++ t) w (by rw [cat_size]; have := Ta.num_len _ hn; unfold maxLen; omega)
  rw [cat_list, Ta.take_back _ _ hn] at h
  have h2 := unz_zig i
  refine h.mono fun e w' hh => ?_
  obtain ⟨rfl, hb⟩ := hh
  refine ⟨?_, hb⟩
  show Ending.returned (.tuple #[.int .i64 (unz (zig i)), .string t, .bool true]) = _
  rw [h2]
theorem back_text (s t : ByteArray) (w : World) (hs : s.size ≤ 3000) (ht : t.size ≤ 3000) :
    Calls Try.prog 29 #[.string ((⟨(txt s.data.toList).toArray⟩ : ByteArray) ++ t)] w fun e w' => e = .returned (.tuple #[.string s, .string t, .bool true]) ∧ Below w.heap.size w w' := by
  have hl : s.data.toList.length = s.size := by simp
  have h := takeText_c ((⟨(txt s.data.toList).toArray⟩ : ByteArray) ++ t) w (by rw [cat_size]; have := txt_len s.data.toList (by omega); unfold maxLen; omega)
  rw [cat_list, takeText_back _ _ (by omega)] at h
  exact h
theorem row_len (L : List ByteArray) (hl : L.length ≤ 300) (hz : ∀ s ∈ L, s.size ≤ 300) : (row L).length ≤ 1000000 ∧ total L ≤ 90000 := by
  have h1 := Ta.num_len L.length (by omega)
  have h2 := txts_len L (fun x hx => by have := hz x hx; omega)
  have h3 : total L ≤ 300 * L.length := by
    clear h1 h2 hl
    induction L with
    | nil => simp [total]
    | cons s L ih =>
      have h4 := ih (fun x hx => hz x (by simp [hx]))
      have h5 := hz s (by simp)
      simp only [total, List.map_cons, List.sum_cons, List.length_cons] at *
      omega
  unfold row
  simp
  omega
theorem back_row (L : List ByteArray) (t : ByteArray) (w : World) (hl : L.length ≤ 300) (hz : ∀ s ∈ L, s.size ≤ 300) (ht : t.size ≤ 3000) :
    Calls Try.prog 31 #[.string ((⟨(row L).toArray⟩ : ByteArray) ++ t)] w fun e w' => ∃ av cv, e = .returned (.tuple #[.slice av L.length cv, .string t, .bool true]) ∧ Below w.heap.size w w' ∧ Strs w' av L := by
  have hr := row_len L hl hz
  have h := takeRow_c ((⟨(row L).toArray⟩ : ByteArray) ++ t) w (by rw [cat_size]; omega)
  have hL := lists_of L
  have hrow : row L = rowL (L.map fun s => s.data.toList) := by rw [← row_bas, hL]
  rw [cat_list, hrow, takeRow_back _ _ (fun x hx => by
    obtain ⟨s, hs, rfl⟩ := List.mem_map.1 hx
    have := hz s hs
    simp; omega) (by simp; omega), ← hrow] at h
  refine h.mono fun e w' hh => ?_
  obtain ⟨av, cv, h1, h2, h3⟩ := row_some hh
  rw [hL] at h1 h3
  exact ⟨av, cv, h1, h2, h3⟩
end Go.Proofs.Ytehofpmkplkaaaa.Tal
