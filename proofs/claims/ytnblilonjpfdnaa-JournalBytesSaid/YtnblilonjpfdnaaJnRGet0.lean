/- Package journal: the document's Get, mathematics. -/
import Derived.Test.YtnblilonjpfdnaaJnNums
namespace Go.Proofs.Ytnblilonjpfdnaa.Jn
open Go Go.RowKit Ck
def NoEn (B : List UInt8) : Prop := ∀ d k s L, ¬ IsEn B d k s L
section
variable {B pre rest : List UInt8} {D K S N a b c : Nat} {A : List Ln}
theorem G.none {lim : Nat} {Cn : Nat → List UInt8 → Cond} {o : Option (Nat × List UInt8)} (h : G B (true && isN lim o) (pre ++ Ta.num (nOf o)) (rOf o) (Cn (nOf o) (rOf o))) (ho : o = none) : NoEn B := by
  subst ho
  exact h.no rfl
theorem G.some {lim : Nat} {Cn : Nat → List UInt8 → Cond} {o : Option (Nat × List UInt8)} {n : Nat} {r : List UInt8} (h : G B (true && isN lim o) (pre ++ Ta.num (nOf o)) (rOf o) (Cn (nOf o) (rOf o))) (ho : o = some (n, r)) : (n ≤ lim → G B true (pre ++ Ta.num n) r (Cn n r)) ∧ (¬ n ≤ lim → NoEn B) := by
  subst ho
  refine ⟨fun hn => ?_, fun hn => h.no ?_⟩
  · have e : (true && isN lim (Option.some (n, r))) = true := decide_eq_true hn
    rw [e] at h
    exact h
  · show (true && decide (n ≤ lim)) = false
    rw [decide_eq_false hn]
    rfl
theorem head_no (h : takes 4 B = none) : NoEn B := by
  have g0 := (G.start B).s1
  unfold takes at h
  cases h1 : Ta.take 0 B with
  | none => exact G.none (Cn := C1) g0 h1
  | some x1 =>
    obtain ⟨a, r1⟩ := x1
    rw [h1] at h
    simp only [Option.map_eq_none_iff] at h
    by_cases ha : a ≤ 3652059
    · have g1 := ((G.some (Cn := C1) g0 h1).1 ha).s2
      unfold takes at h
      cases h2 : Ta.take 0 r1 with
      | none => exact G.none (Cn := C2 a) g1 h2
      | some x2 =>
        obtain ⟨b, r2⟩ := x2
        rw [h2] at h
        simp only [Option.map_eq_none_iff] at h
        by_cases hb : b ≤ 255
        · have g2 := ((G.some (Cn := C2 a) g1 h2).1 hb).s3
          unfold takes at h
          cases h3 : Ta.take 0 r2 with
          | none => exact G.none (Cn := C3 a b) g2 h3
          | some x3 =>
            obtain ⟨c, r3⟩ := x3
            rw [h3] at h
            simp only [Option.map_eq_none_iff] at h
            have hc := (Ta.take_bound _ _ _ _ h3).1
            have g3 := ((G.some (Cn := C3 a b) g2 h3).1 (by omega)).s4
            unfold takes at h
            cases h4 : Ta.take 0 r3 with
            | none => exact G.none (Cn := fun N r => CL a b c N [] r) g3 h4
            | some x4 =>
              rw [h4] at h
              simp [takes] at h
        · exact (G.some (Cn := C2 a) g1 h2).2 hb
    · exact (G.some (Cn := C1) g0 h1).2 ha
theorem takes_one {m : Nat} {r : List UInt8} {ns : List Nat} {t : List UInt8} (h : takes (m + 1) r = some (ns, t)) : ∃ n r1 ns1, Ta.take 0 r = some (n, r1) ∧ takes m r1 = some (ns1, t) ∧ ns = n :: ns1 := by
  unfold takes at h
  cases h1 : Ta.take 0 r with
  | none => rw [h1] at h; cases h
  | some x =>
    obtain ⟨n, r1⟩ := x
    rw [h1] at h
    simp only [Option.map_eq_some_iff] at h
    obtain ⟨⟨ns1, t1⟩, h2, h3⟩ := h
    obtain ⟨e1, e2⟩ := Prod.mk.inj h3
    exact ⟨n, r1, ns1, rfl, by rw [h2]; exact congrArg some (Prod.ext rfl e2), e1.symm⟩
theorem takes_zero {r : List UInt8} {ns : List Nat} {t : List UInt8} (h : takes 0 r = some (ns, t)) : ns = [] ∧ r = t := by
  unfold takes at h
  obtain ⟨e1, e2⟩ := Prod.mk.inj (Option.some.inj h)
  exact ⟨e1.symm, e2⟩
theorem head_yes {ns : List Nat} {t : List UInt8} (h : takes 4 B = some (ns, t)) : ∃ a b c n, ns = [a, b, c, n] ∧ a < 18446744073709551616 ∧ b < 18446744073709551616 ∧ c < 18446744073709551616 ∧ n < 18446744073709551616 ∧ t.length ≤ B.length ∧ (a ≤ 3652059 → b ≤ 255 → n ≤ 64 → G B true (headB a b c n) t (CL a b c n [] t)) ∧ (¬ (a ≤ 3652059 ∧ b ≤ 255 ∧ n ≤ 64) → NoEn B) := by
  obtain ⟨a, r1, ns1, h1, k1, rfl⟩ := takes_one h
  obtain ⟨b, r2, ns2, h2, k2, rfl⟩ := takes_one k1
  obtain ⟨c, r3, ns3, h3, k3, rfl⟩ := takes_one k2
  obtain ⟨n, r4, ns4, h4, k4, rfl⟩ := takes_one k3
  obtain ⟨rfl, rfl⟩ := takes_zero k4
  have b1 := Ta.take_bound _ _ _ _ h1
  have b2 := Ta.take_bound _ _ _ _ h2
  have b3 := Ta.take_bound _ _ _ _ h3
  have b4 := Ta.take_bound _ _ _ _ h4
  have g1 := G.some (Cn := C1) (G.start B).s1 h1
  refine ⟨a, b, c, n, rfl, b1.1, b2.1, b3.1, b4.1, by omega, fun ha hb hn => ?_, fun hno => ?_⟩
  · exact (G.some (Cn := fun N r => CL a b c N [] r) ((G.some (Cn := C3 a b) ((G.some (Cn := C2 a) (g1.1 ha).s2 h2).1 hb).s3 h3).1 (by omega)).s4 h4).1 hn
  · by_cases ha : a ≤ 3652059
    · have g2 := G.some (Cn := C2 a) (g1.1 ha).s2 h2
      by_cases hb : b ≤ 255
      · exact (G.some (Cn := fun N r => CL a b c N [] r) ((G.some (Cn := C3 a b) (g2.1 hb).s3 h3).1 (by omega)).s4 h4).2 (fun hn => hno ⟨ha, hb, hn⟩)
      · exact g2.2 hb
    · exact g1.2 ha
/-- A line. -/
theorem line_no (g : G B true pre rest (CL D K S N A rest)) (hA : A.length < N) (h : takes 3 rest = none) : NoEn B := by
  have g0 := g.l1 hA
  unfold takes at h
  cases h1 : Ta.take 0 rest with
  | none => exact G.none (Cn := CL1 D K S N A) g0 h1
  | some x1 =>
    obtain ⟨a, r1⟩ := x1
    rw [h1] at h
    simp only [Option.map_eq_none_iff] at h
    by_cases ha : a ≤ 9999
    · have g1 := ((G.some (Cn := CL1 D K S N A) g0 h1).1 ha).l2 hA
      unfold takes at h
      cases h2 : Ta.take 0 r1 with
      | none => exact G.none (Cn := CL2 D K S N A a) g1 h2
      | some x2 =>
        obtain ⟨b, r2⟩ := x2
        rw [h2] at h
        simp only [Option.map_eq_none_iff] at h
        have hb := (Ta.take_bound _ _ _ _ h2).1
        have g2 := ((G.some (Cn := CL2 D K S N A a) g1 h2).1 (by omega)).l3 hA
        unfold takes at h
        cases h3 : Ta.take 0 r2 with
        | none => exact G.none (Cn := CL3 D K S N A a b) g2 h3
        | some x3 =>
          rw [h3] at h
          simp [takes] at h
    · exact (G.some (Cn := CL1 D K S N A) g0 h1).2 ha
theorem line_yes {ns : List Nat} {t : List UInt8} (g : G B true pre rest (CL D K S N A rest)) (hA : A.length < N) (h : takes 3 rest = some (ns, t)) : ∃ a b c, ns = [a, b, c] ∧ a < 18446744073709551616 ∧ b < 18446744073709551616 ∧ c < 18446744073709551616 ∧ t.length ≤ rest.length ∧ (¬ a ≤ 9999 → NoEn B) ∧ (a ≤ 9999 → (Ta.take 0 t = none → NoEn B) ∧ ∀ n t2, Ta.take 0 t = some (n, t2) → G B true (pre ++ Ta.num a ++ Ta.num b ++ Ta.num c ++ Ta.num (Tal.zig (Tal.unz n))) t2 (CL D K S N (A ++ [(⟨(a : Int), (b : Int), (c : Int), Tal.unz n⟩ : Ln)]) t2)) := by
  obtain ⟨a, r1, ns1, h1, k1, rfl⟩ := takes_one h
  obtain ⟨b, r2, ns2, h2, k2, rfl⟩ := takes_one k1
  obtain ⟨c, r3, ns3, h3, k3, rfl⟩ := takes_one k2
  obtain ⟨rfl, rfl⟩ := takes_zero k3
  have b1 := Ta.take_bound _ _ _ _ h1
  have b2 := Ta.take_bound _ _ _ _ h2
  have b3 := Ta.take_bound _ _ _ _ h3
  have g1 := G.some (Cn := CL1 D K S N A) (g.l1 hA) h1
  refine ⟨a, b, c, rfl, b1.1, b2.1, b3.1, by omega, g1.2, fun ha => ?_⟩
  have g3 := ((G.some (Cn := CL3 D K S N A a b) (((G.some (Cn := CL2 D K S N A a) ((g1.1 ha).l2 hA) h2).1 (by omega)).l3 hA) h3).1 (by omega)).l4 hA
  refine ⟨fun h4 => G.none (Cn := fun n r => CL D K S N (A ++ [(⟨(a : Int), (b : Int), (c : Int), Tal.unz n⟩ : Ln)]) r) g3 h4, fun n t2 h4 => ?_⟩
  have b4 := Ta.take_bound _ _ _ _ h4
  rw [Tal.zig_unz]
  exact (G.some (Cn := fun n r => CL D K S N (A ++ [(⟨(a : Int), (b : Int), (c : Int), Tal.unz n⟩ : Ln)]) r) g3 h4).1 (by omega)
end
end Go.Proofs.Ytnblilonjpfdnaa.Jn
