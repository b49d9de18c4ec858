/- The statements of plans: acts in memory; great. -/
import Derived.Test.YtakpoabpgdmneaaPlHead
import Derived.Deep.LoopGhost
namespace Go.Proofs.Ytakpoabpgdmneaa.Pl
open Go Go.RowKit Ck Go.Maps
abbrev TAct : TypeId := 35
/-- An act. -/
structure Ac where
  what : Int
  p : Pn
  a : Option Addr
  cap : Nat
  y : Pr
  day : Int
def Ac.cells (x : Ac) : List Value := [.int .u8 x.what, .int .u64 x.p.id, .string x.p.name, .int .i64 x.p.every, .slice x.a x.p.ps.length x.cap, .int .i64 x.p.ret, .int .i64 x.y.frm, .int .i64 x.y.amt, .int .i64 x.day]
structure Ac.Fits (x : Ac) : Prop where
  w : 0 ≤ x.what ∧ x.what ≤ 255
  id : U64 x.p.id
  ps : x.p.ps.length ≤ maxLen
  name : x.p.name.size ≤ maxLen
/-- Acts in memory. -/
def Acs (w : World) (a : Option Addr) (L : List Ac) : Prop := ∀ j (h : j < L.length), ∃ b off, a = some ⟨b, off, none⟩ ∧ b < w.heap.size ∧ (∀ k u, L[j].cells[k]? = some u → w.cell? ⟨b, off + j * 9 + k, none⟩ = some u) ∧ Prs w L[j].a L[j].p.ps
theorem Acs.later {w w' : World} {a : Option Addr} {L : List Ac} (h : Acs w a L) (hb : Below w.heap.size w w') : Acs w' a L := fun j hj => by
  obtain ⟨b, off, ha, hlt, h1, h2⟩ := h j hj
  exact ⟨b, off, ha, Nat.lt_of_lt_of_le hlt hb.size, fun k u hu => by rw [hb.cell (by simpa using hlt)]; exact h1 k u hu, h2.later hb⟩
def bigB (x : Ac) : Bool := decide (110 < x.p.ps.length) || decide (200 < x.p.name.size)
def greatB (L : List Ac) : Bool := L.any bigB || decide (120 < L.length)
theorem not_great {L : List Ac} (h : greatB L = false) : L.length ≤ 120 ∧ ∀ x ∈ L, x.p.ps.length ≤ 110 ∧ x.p.name.size ≤ 200 := by
  unfold greatB at h
  rw [Bool.or_eq_false_iff, decide_eq_false_iff_not, List.any_eq_false] at h
  refine ⟨by omega, fun x hx => ?_⟩
  have := h.1 x hx
  unfold bigB at this
  simp only [Bool.or_eq_true, decide_eq_true_eq] at this
  omega
set_option maxRecDepth 100000 in
set_option maxHeartbeats 1600000 in
theorem great_c (L : List Ac) (a : Option Addr) (cap : Nat) (w : World) (h : Acs w a L) (hl : L.length ≤ maxLen) (hf : ∀ x ∈ L, Ac.Fits x) : Calls Try.prog 6 #[.slice a L.length cap] w fun e w' => e = .returned (.bool (greatB L)) ∧ w = w' := by
  have H := Lib.hid h
  have HF := Lib.hid hf
  have hml : maxLen = 9223372036854775807 := rfl
  rw [hml] at hl
  clear h hf hml
  obtain ⟨R, hR⟩ : ∃ R, R = greatB L := ⟨_, rfl⟩
  rw [← hR]
  have HR := Lib.hid hR
  clear hR
  go_enter Try.func6, Try.ntmps6
  go_wp2_with fail
  go_loopg [3] L.length (fun kx s3 wr => ∃ i : Nat, s3 = .int .i64 (i : Int) ∧ i ≤ L.length ∧ Hid (∀ j (h : j < L.length), j < i → bigB L[j] = false) ∧ w = wr ∧ L.length ≤ i + kx)
  case atStart => exact ⟨0, rfl, Nat.zero_le _, fun j _ hj => by omega, rfl, by omega⟩
  case round =>
    obtain ⟨i, rfl, hi9, HJ, rfl, hkx⟩ := hrel
    by_cases hlt : i < L.length
    · obtain ⟨b, off, rfl, hblt, hc, hprs⟩ := H.out i hlt
      have c2 := hc 2 _ rfl
      have c4 := hc 4 _ rfl
      have HX := Lib.hid (HF.out _ (List.getElem_mem hlt))
      obtain ⟨n, hn⟩ : ∃ n, n = L[i].p.ps.length := ⟨_, rfl⟩
      obtain ⟨s, hs⟩ : ∃ s, s = L[i].p.name := ⟨_, rfl⟩
      have HB : Hid (bigB L[i] = (decide (110 < n) || decide (200 < s.size))) := by show _ = _; rw [hn, hs]; rfl
      rw [← hs] at c2
      rw [← hn] at c4
      have j0 : (0 : Int) ≤ (i : Int) := by omega
      have j1 : (i : Int) < (L.length : Int) := by omega
      have HLT := Lib.hid hlt
      clear hn hs hc HX hblt hprs
      by_cases h1 : 110 < n
      · have h1' : (110 : Int) < (n : Int) := by omega
        have HF2 : Hid (R = true) := by
          show _ = _
          rw [HR.out]
          unfold greatB
          rw [List.any_eq_true.2 ⟨_, List.getElem_mem HLT.out, by rw [HB.out, decide_eq_true h1]; rfl⟩]
          rfl
        clear HR h1
        go_wp2_with fail
        go_ret
        exact ⟨by rw [HF2.out]; rfl, rfl⟩
      · have h1' : ¬ (110 : Int) < (n : Int) := by omega
        by_cases h2 : 200 < s.size
        · have h2' : (200 : Int) < (s.size : Int) := by omega
          have HF2 : Hid (R = true) := by
            show _ = _
            rw [HR.out]
            unfold greatB
            rw [List.any_eq_true.2 ⟨_, List.getElem_mem HLT.out, by rw [HB.out, decide_eq_true h2]; simp⟩]
            rfl
          clear HR h1 h2
          go_wp2_with fail
          go_ret
          exact ⟨by rw [HF2.out]; rfl, rfl⟩
        · have h2' : ¬ (200 : Int) < (s.size : Int) := by omega
          have HJ2 : Hid (∀ j (h : j < L.length), j < i + 1 → bigB L[j] = false) := fun j hj hji => by
            by_cases e : j = i
            · subst e; rw [HB.out, decide_eq_false h1, decide_eq_false h2]; rfl
            · exact HJ.out j hj (by omega)
          clear HJ h1 h2
          go_wp2_with fail
          go_roundg (L.length - (i + 1))
          case measure => omega
          case rel => exact ⟨i + 1, by simp, by have := HLT.out; omega, HJ2, rfl, by omega⟩
    · obtain rfl : i = L.length := by omega
      have HF2 : Hid (R = decide (120 < L.length)) := by
        show _ = _
        rw [HR.out]
        unfold greatB
        have : L.any bigB = false := by
          rw [List.any_eq_false]
          intro x hx
          obtain ⟨j, hj, rfl⟩ := List.getElem_of_mem hx
          rw [HJ.out j hj hj]
          decide
        rw [this]
        rfl
      clear HR HJ
      by_cases h3 : 120 < L.length
      · have h3' : (120 : Int) < (L.length : Int) := by omega
        go_wp2_with fail
        go_ret
        exact ⟨by rw [HF2.out, decide_eq_true h3]; rfl, rfl⟩
      · have h3' : ¬ (120 : Int) < (L.length : Int) := by omega
        go_wp2_with fail
        go_ret
        exact ⟨by rw [HF2.out, decide_eq_false h3]; rfl, rfl⟩
end Go.Proofs.Ytakpoabpgdmneaa.Pl
