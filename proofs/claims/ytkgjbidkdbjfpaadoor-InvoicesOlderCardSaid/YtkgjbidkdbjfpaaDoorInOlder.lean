/- Package invoices: InvoicesOlder, joined. -/
import Derived.Test.YtkgjbidkdbjfpaaDoorInOlder2
namespace Go.Proofs.YtkgjbidkdbjfpaaDoor.Inv
open Go.RowKit Cm
set_option maxRecDepth 100000 in
theorem older_c (a : Option Addr) (cap : Nat) (L : List Iv) (d1 d2 : Int) (w : World) (hL : Ivs w a L) (hm : L.length ≤ maxLen) (hf : ∀ x ∈ L, x.Fits) (ht : Tab w) :
    Calls Tryd.prog 11 #[.slice a L.length cap, .int .i64 d1, .int .i64 d2] w fun e w' => e = .returned (.bool true) ∧ Below w.heap.size w w' := by
  unfold maxLen at hm
  by_cases hl : L.length ≤ 100
  · obtain ⟨p, q, hpq, hd⟩ : ∃ p q : Int, p ≤ q ∧ ((d1 < d2 ∧ p = d1 ∧ q = d2) ∨ (d2 < d1 ∧ p = d2 ∧ q = d1) ∨ (d1 = d2 ∧ p = d1 ∧ q = d1)) := by
      by_cases h1 : d1 < d2
      · exact ⟨d1, d2, by omega, .inl ⟨h1, rfl, rfl⟩⟩
      · by_cases h2 : d2 < d1
        · exact ⟨d2, d1, by omega, .inr (.inl ⟨h2, rfl, rfl⟩)⟩
        · exact ⟨d1, d1, by omega, .inr (.inr ⟨by omega, rfl, rfl⟩)⟩
    obtain ⟨s0, s1, s2, s3, s4, z, hs, ka⟩ := ages_one a cap L p (by omega) hf
    obtain ⟨t0, t1, t2, t3, t4, y, hy, kb⟩ := ages_one a cap L q (by omega) hf
    by_cases hzy : z = 0 ∧ y = 0
    · exact older_ok a cap L d1 d2 p q w hL hf hpq hl ht hd s0 s1 s2 s3 s4 t0 t1 t2 t3 t4 z y hs hy ka kb hzy.1 hzy.2
    · exact older_err a cap L d1 d2 p q w hL hl ht hd s0 s1 s2 s3 s4 t0 t1 t2 t3 t4 z y hs hy ka kb hzy
  · have KH := Lib.hid head_c
    have HT := Lib.hid ht
    have hle : (100 : Int) < (L.length : Int) := by omega
    clear hL hf ht hl
    go_enter Tryd.func11, Tryd.ntmps11
    go_wp2_with fail
    refine (KH.out _ HT.out).mono ?_
    rintro e w1 ⟨rfl, b1⟩
    go_wp2_with fail
    go_ret
    exact ⟨rfl, b1⟩
end Go.Proofs.YtkgjbidkdbjfpaaDoor.Inv
