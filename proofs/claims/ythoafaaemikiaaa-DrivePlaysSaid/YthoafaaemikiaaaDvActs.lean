/- Package drive: acts in memory, and what was written by them. -/
import Derived.Test.YthoafaaemikiaaaDvCrash
namespace Go.Proofs.Ythoafaaemikiaaa.Dv
open Go Go.RowKit Rf
structure Ac where
  what : Int
  n : Int
  s : ByteArray
  c : Cr
def Ac.cs (x : Ac) : List Value := [.int .u8 x.what, .int .i64 x.n, .string x.s, .int .u64 (x.c.keep : Int), .int .i64 x.c.torn, .int .i64 x.c.at']
structure Ac.Fits (x : Ac) : Prop where
  what : 0 ≤ x.what ∧ x.what ≤ 255
  n : -9223372036854775808 ≤ x.n ∧ x.n ≤ 9223372036854775807
  s : x.s.size ≤ 9223372036854775807
  c : x.c.Fits
/-- Acts in memory. -/
def Acs (w : World) (a : Option Addr) (A : List Ac) : Prop := ∀ j (h : j < A.length), ∃ b off, a = some ⟨b, off, none⟩ ∧ b < w.heap.size ∧ ∀ i v, A[j].cs[i]? = some v → w.cell? ⟨b, off + j * 6 + i, none⟩ = some v
theorem Acs.later {w w' : World} {a : Option Addr} {A : List Ac} (h : Acs w a A) (hb : Below w.heap.size w w') : Acs w' a A := fun j hj => by
  obtain ⟨b, off, ha, hlt, hc⟩ := h j hj
  exact ⟨b, off, ha, Nat.lt_of_lt_of_le hlt hb.size, fun i v hv => by rw [hb.cell (by simpa using hlt)]; exact hc i v hv⟩
abbrev TA : TypeId := 35
def flatA (A : List Ac) : List Value := A.flatMap Ac.cs
theorem flatA_snoc (A : List Ac) (x : Ac) : flatA (A ++ [x]) = flatA A ++ x.cs := by simp [flatA]
theorem flatA_len (A : List Ac) : (flatA A).length = A.length * 6 := by
  induction A with
  | nil => rfl
  | cons x A ih =>
    show (x.cs ++ flatA A).length = _
    rw [List.length_append, ih, List.length_cons]
    show 6 + A.length * 6 = _
    omega
theorem flatA_at (A : List Ac) : ∀ (j : Nat) (hj : j < A.length) (i : Nat) (v : Value), A[j].cs[i]? = some v → (flatA A)[j * 6 + i]? = some v := by
  induction A with
  | nil => intro j hj; simp at hj
  | cons x A ih =>
    intro j hj i v hv
    show (x.cs ++ flatA A)[j * 6 + i]? = some v
    have hi := (List.getElem?_eq_some_iff.1 hv).1
    have h6 : ∀ y : Ac, y.cs.length = 6 := fun _ => rfl
    rw [h6] at hi
    cases j with
    | zero => rw [List.getElem?_append_left (by rw [h6]; omega), Nat.zero_mul, Nat.zero_add]; exact hv
    | succ j =>
      rw [List.getElem?_append_right (by rw [h6]; omega), h6, show (j + 1) * 6 + i - 6 = j * 6 + i by omega]
      exact ih j (by simpa using hj) i v hv
/-- Acts of one's own are acts in memory. -/
theorem acs_own {w : World} {base n : Nat} {v : Value} {A : List Ac} (h : w.ownsRow base TA 6 v n (flatA A)) (hn : n = A.length) (h0 : 0 < n) : ∃ a cap, v = .slice a A.length cap ∧ Acs w a A := by
  subst hn
  obtain ⟨g, cap, rfl⟩ := own_form h h0
  obtain ⟨hg, hc⟩ := own_cell h
  refine ⟨_, cap, rfl, fun j hj => ⟨g, 0, rfl, hg, fun i u hu => ?_⟩⟩
  rw [Nat.zero_add]
  exact hc _ _ (flatA_at A j hj i u hu)
set_option maxRecDepth 100000 in
set_option maxHeartbeats 1600000 in
theorem wrote_c (A : List Ac) (a : Option Addr) (cap k i0 : Nat) (n : Int) (b : UInt8) (w : World) (hA : Acs w a A) (hf : ∀ x ∈ A, x.Fits) (hl : A.length ≤ 100000) (hk : k < 64) (hi : i0 < A.length) (hn : A[i0].n = n) (hb : A[i0].s.data.toList.getD k 0 = b) :
    Calls Try.prog 20 #[.slice a A.length cap, .int .i64 n, .int .i64 (k : Int), .int .u8 (b.toNat : Int)] w fun e w' => e = .returned (.bool true) ∧ w = w' := by
  have HA := Lib.hid hA
  have HF := Lib.hid hf
  have HN := Lib.hid hn
  have HB := Lib.hid hb
  clear hA hf hn hb
  go_enter Try.func20, Try.ntmps20
  go_wp2_with fail
  go_loopw [9] (fun i wr => ∃ j : Nat, i = .int .i64 (j : Int) ∧ j ≤ i0 ∧ wr = w) (fun i _ => A.length - (intOf i).toNat)
  case atStart => exact ⟨0, rfl, Nat.zero_le _, rfl⟩
  case round =>
    obtain ⟨j, rfl, hj, rfl⟩ := hrel
    have hjl : j < A.length := by omega
    have hj0 : (0 : Int) ≤ (j : Int) := by omega
    have hju : (j : Int) < (A.length : Int) := by omega
    have hk0 : (0 : Int) ≤ (k : Int) := by omega
    obtain ⟨ab, ao, rfl, hab, hc⟩ := HA.out j hjl
    obtain ⟨y, hy⟩ : ∃ y, A[j] = y := ⟨_, rfl⟩
    have hyf := HF.out A[j] (List.getElem_mem hjl)
    rw [hy] at hc hyf
    have hys := hyf.s
    have c1 : wr.cell? ⟨ab, ao + j * 6 + 1, none⟩ = some (.int .i64 y.n) := hc 1 _ rfl
    have c2 : wr.cell? ⟨ab, ao + j * 6 + 2, none⟩ = some (.string y.s) := hc 2 _ rfl
    clear hc hyf
    have hstep : ¬ (y.n = n ∧ y.s.data.toList.getD k 0 = b) → j + 1 ≤ i0 := fun h => by
      by_cases hji : j = i0
      · subst hji
        exact absurd ⟨by rw [← hy]; exact HN.out, by rw [← hy]; exact HB.out⟩ h
      · omega
    have hbyte : ∀ h : k < y.s.size, y.s[k] = y.s.data.toList.getD k 0 := fun h => by
      rw [List.getD_eq_getElem?_getD, List.getElem?_eq_getElem (by rw [← Lib.size_eq]; exact h)]
      rfl
    have hzero : ¬ k < y.s.size → y.s.data.toList.getD k 0 = 0 := fun h => by
      rw [List.getD_eq_getElem?_getD, List.getElem?_eq_none (by rw [← Lib.size_eq]; omega)]
      rfl
    have hne : ∀ z : UInt8, z ≠ b → ((z.toNat : Int) == (b.toNat : Int)) = false := fun z h => by
      simp only [beq_eq_false_iff_ne, ne_eq, Int.ofNat_inj]
      exact fun h2 => h (UInt8.toNat_inj.1 h2)
    have HST := Lib.hid hstep
    clear hstep hy
    by_cases h1 : y.n = n
    · by_cases h2 : k < y.s.size
      · have hbk := hbyte h2
        by_cases h3 : y.s.data.toList.getD k 0 = b
        · have e3 : ((y.s[k].toNat : Int) == (b.toNat : Int)) = true := by rw [hbk, h3]; simp
          clear hbk hbyte hzero hne h3 HST
          go_wp2_with fail
          go_ret
          exact ⟨rfl, rfl⟩
        · have e3 : ((y.s[k].toNat : Int) == (b.toNat : Int)) = false := hne _ (by rw [hbk]; exact h3)
          have hnx := HST.out fun h => h3 h.2
          clear hbk hbyte hzero hne h3 HST
          go_wp2_with fail
          go_roundw
          case rel => exact ⟨j + 1, by go_num, hnx, trivial⟩
          case measure => simp [intOf]; omega
      · have hz := hzero h2
        by_cases h3 : y.s.data.toList.getD k 0 = b
        · have e3 : ((0 : Int) == (b.toNat : Int)) = true := by rw [← h3, hz]; rfl
          clear hz hbyte hzero hne h3 HST
          go_wp2_with fail
          go_ret
          exact ⟨rfl, rfl⟩
        · have e3 : ((0 : Int) == (b.toNat : Int)) = false := by rw [hz] at h3; exact hne 0 h3
          have hnx := HST.out fun h => h3 h.2
          clear hz hbyte hzero hne h3 HST
          go_wp2_with fail
          go_roundw
          case rel => exact ⟨j + 1, by go_num, hnx, trivial⟩
          case measure => simp [intOf]; omega
    · have hnx := HST.out fun h => h1 h.1
      clear hbyte hzero hne HST
      go_wp2_with fail
      go_roundw
      case rel => exact ⟨j + 1, by go_num, hnx, trivial⟩
      case measure => simp [intOf]; omega
end Go.Proofs.Ythoafaaemikiaaa.Dv
