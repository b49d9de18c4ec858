/- Package drive: Read. -/
import Derived.Test.YtjlncjabiofklaaDoorDwWrite
namespace Go.Proofs.YtjlncjabiofklaaDoor.Dv
open Go Go.RowKit Rf
def Dr.read (x : Dr) (n : Int) : Sec × Int := if n < 0 ∨ (x.D.length : Int) ≤ n then ([], 2) else (x.V.getD n.toNat [], 0)
set_option maxHeartbeats 1600000 in
theorem r1_c (q : Nat) (g bv bd : Nat) (pv fv : Value) (x : Dr) (k : Nat) (l : Sec) (w : World) (hA : At w g bv bd pv fv x) (hl : l.length = 64) (hv : ∀ s ∈ x.V, s.length = 64) (hk : x.V[k]? = some l) (hq : Rw w q 9 [.string ⟨#[]⟩]) :
    Calls Tryd.prog 44 #[.pointer (some ⟨bv, k * 64, Option.none⟩), .pointer (some ⟨q, 0, Option.none⟩)] w fun e w' => e = .returned (.int .i64 0) ∧ w' = w.setCell ⟨q, 0, none⟩ (.string ⟨l.toArray⟩) := by
  have c0 : w.cell? ⟨q, 0, none⟩ = some (.string ⟨#[]⟩) := hq.cell 0
  have f0 : w.frozen? ⟨q, 0, none⟩ = false := hq.frozen 0
  have hkl : k < x.V.length := (List.getElem?_eq_some_iff.1 hk).1
  have hr := hA.rangeV hv k hkl
  rw [(List.getElem?_eq_some_iff.1 hk).2] at hr
  have hcv := run_convert_bytes_back (P := Tryd.prog) w 71 9 5 ⟨bv, k * 64, none⟩ 64 l Tryd.underlying71 Tryd.underlying5 Tryd.underlying9 (fun j hj => by
    rw [Addr.add_mid]
    exact hr j _ (by rw [show (sc l)[j]? = some (Dv.bv l[j]) by simp [sc, List.getElem?_eq_getElem hj]]; rfl))
  rw [hl] at hcv
  clear hA hr hv hk hkl hq
  go_enter Tryd.func44, Tryd.ntmps44
  go_wp2_with fail
  go_ret
  exact ⟨rfl, rfl⟩
set_option maxHeartbeats 1600000 in
theorem at_read (q : Nat) (g bv bd : Nat) (pv fv : Value) (x : Dr) (k : Nat) (z : Int) (R : World → Prop) (w : World) (hA : At w g bv bd pv fv x) (hx : x.Ok) (hk : k < x.D.length)
    (hc : Calls Tryd.prog 44 #[.pointer (some ⟨bv, k * 64, Option.none⟩), .pointer (some ⟨q, 0, Option.none⟩)] w fun e w' => e = .returned (.int .i64 z) ∧ R w') : Calls Tryd.prog 43 #[.pointer (some ⟨g, 0, Option.none⟩), .int .i64 (k : Int), .func (.func 44) #[] #[.pointer (some ⟨q, 0, Option.none⟩)]] w fun e w' => e = .returned (.int .i64 z) ∧ R w' := by
  have K := Lib.hid (is_c g bv bd pv fv x w hA hx)
  have HC := Lib.hid hc
  have c0 := hA.c0
  have h0 : (0 : Int) ≤ (k : Int) := by omega
  have h1 : k < x.n := hk
  have h2 := hx.n2
  have h3 : x.n ≤ 4096 := h2
  clear hA hx hk hc h2
  go_enter Tryd.func43, Tryd.ntmps43
  go_wp2_with fail
  refine K.out.mono ?_
  rintro e w' ⟨rfl, rfl⟩
  go_wp2_with fail
  refine HC.out.mono ?_
  rintro e w' ⟨rfl, hr⟩
  go_wp2_with fail
  go_ret
  exact ⟨rfl, hr⟩
/-- Read of a drive. -/
def RdRes (x : Dr) (n : Int) (w : World) (e : Ending) (w' : World) : Prop := e = .returned (.tuple #[.string ⟨(x.read n).1.toArray⟩, .int .i64 (x.read n).2]) ∧ Below w.heap.size w w'
set_option maxHeartbeats 1600000 in
theorem read_c (g bv bd : Nat) (pv fv : Value) (x : Dr) (n : Int) (w : World) (hA : At w g bv bd pv fv x) (hx : x.Ok) : Calls Tryd.prog 31 #[.pointer (some ⟨g, 0, Option.none⟩), .int .i64 n] w (RdRes x n w) := by
  have hb : Below w.heap.size w (w.alloc (.cells #[.string ⟨#[]⟩] 9)) := (Below.refl _ w).alloc (Nat.le_refl _) _
  have hA2 := hA.later hb
  have hq := Rw.new w [.string ⟨#[]⟩] 9
  have key : ∀ (z : Int) (S : ByteArray) (W2 : World), (Calls Tryd.prog 43 #[.pointer (some ⟨g, 0, Option.none⟩), .int .i64 n, .func (.func 44) #[] #[.pointer (some ⟨w.heap.size, 0, Option.none⟩)]] (w.alloc (.cells #[.string ⟨#[]⟩] 9)) fun e w' => e = .returned (.int .i64 z) ∧ w' = W2) → W2.cell? ⟨w.heap.size, 0, none⟩ = some (.string S) → Below w.heap.size w W2 →
      Calls Tryd.prog 31 #[.pointer (some ⟨g, 0, Option.none⟩), .int .i64 n] w fun e w' => e = .returned (.tuple #[.string S, .int .i64 z]) ∧ Below w.heap.size w w' := by
    intro z S W2 hc h2 hB
    have HC := Lib.hid hc
    have HB := Lib.hid hB
    clear hc hb hA2 hA hx hq hB
    go_enter Tryd.func31, Tryd.ntmps31
    go_wp2_with fail
    refine HC.out.mono ?_
    rintro e w' ⟨rfl, rfl⟩
    go_wp2_with fail
    go_ret2
    exact ⟨rfl, HB.out⟩
  unfold RdRes Dr.read
  by_cases hn : n < 0 ∨ (x.D.length : Int) ≤ n
  · rw [if_pos hn]
    exact key 2 ⟨#[]⟩ _ ((at_out g bv bd pv fv _ x n _ hA2 hx hn).mono fun e w' h => ⟨h.1, h.2.symm⟩) (hq.cell 0) hb
  · rw [if_neg hn]
    obtain ⟨k, rfl⟩ := Int.eq_ofNat_of_zero_le (show 0 ≤ n by omega)
    have hk : k < x.D.length := by omega
    have hkV : k < x.V.length := by rw [Dr.vlen]; exact hk
    have hg : x.V.getD ((k : Int)).toNat [] = x.V[k] := by simp [List.getD, List.getElem?_eq_getElem hkV]
    rw [hg]
    refine key 0 _ ((w.alloc (.cells #[.string ⟨#[]⟩] 9)).setCell ⟨w.heap.size, 0, none⟩ (.string ⟨x.V[k].toArray⟩)) (at_read _ g bv bd pv fv x k 0 _ _ hA2 hx hk (r1_c _ g bv bd pv fv x k x.V[k] _ hA2 (hx.v _ (List.getElem_mem hkV)) hx.v (List.getElem?_eq_getElem hkV) hq)) ?_ ?_
    · exact (hq.setCell 0 (.string ⟨x.V[k].toArray⟩)).cell 0
    · exact hb.setCell (Nat.le_refl _) _
end Go.Proofs.YtjlncjabiofklaaDoor.Dv
