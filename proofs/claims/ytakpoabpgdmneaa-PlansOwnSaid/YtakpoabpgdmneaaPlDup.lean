/- Package plans: duplicate. -/
import Derived.Test.YtakpoabpgdmneaaPlCheck
import Derived.Test.YtakpoabpgdmneaaCkApp
namespace Go.Proofs.Ytakpoabpgdmneaa.Pl
open Go Go.RowKit Ck
abbrev TPrices : TypeId := 29
theorem infoPr : (Try.prog.info? TPrice).map (fun i => (i.size, i.bytes)) = some (2, 16) := by kernel_rfl
theorem zeroPr : ((Try.prog.info? TPrice).bind (·.zero)).map (fun z => z.cells.size) = some 2 := by kernel_rfl
theorem info_pr : ∃ i z, Try.prog.info? TPrice = some i ∧ i.zero = some z ∧ i.size = 2 ∧ i.bytes = 16 ∧ z.cells.size = 2 := by
  have h := infoPr
  have h2 := zeroPr
  cases hi : Try.prog.info? TPrice with
  | none => rw [hi] at h; cases h
  | some i =>
    rw [hi] at h h2
    simp only [Option.map_some, Option.some.injEq, Prod.mk.injEq, Option.bind_some] at h h2
    cases hz : i.zero with
    | none => rw [hz] at h2; cases h2
    | some z =>
      rw [hz] at h2
      simp only [Option.map_some, Option.some.injEq] at h2
      exact ⟨i, z, rfl, hz, h.1, h.2, h2⟩
def flatP (L : List Pr) : List Value := L.flatMap Pr.cells
theorem flatP_len (L : List Pr) : (flatP L).length = L.length * 2 := by
  induction L with
  | nil => rfl
  | cons x L ih =>
    show (x.cells ++ flatP L).length = _
    rw [List.length_append, ih, List.length_cons]
    show 2 + L.length * 2 = _
    omega
theorem flatP_one (L : List Pr) : ∀ u ∈ flatP L, u.oneCell' = true := by
  intro u hu
  obtain ⟨x, _, hx⟩ := List.mem_flatMap.1 hu
  unfold Pr.cells at hx
  simp only [List.mem_cons, List.not_mem_nil, or_false] at hx
  rcases hx with rfl | rfl <;> rfl
theorem flatP_at (L : List Pr) : ∀ (k : Nat) (u : Value), (flatP L)[k]? = some u → ∃ (j : Nat) (h : j < L.length), (k = j * 2 ∧ u = .int .i64 L[j].frm) ∨ (k = j * 2 + 1 ∧ u = .int .i64 L[j].amt) := by
  induction L with
  | nil => intro k u h; simp [flatP] at h
  | cons x L ih =>
    intro k u h
    have e : flatP (x :: L) = .int .i64 x.frm :: .int .i64 x.amt :: flatP L := rfl
    rw [e] at h
    match k, h with
    | 0, h => exact ⟨0, by simp, .inl ⟨rfl, by simpa using h.symm⟩⟩
    | 1, h => exact ⟨0, by simp, .inr ⟨rfl, by simpa using h.symm⟩⟩
    | k + 2, h =>
      obtain ⟨j, hj, h2⟩ := ih k u (by simpa using h)
      refine ⟨j + 1, by simpa using hj, ?_⟩
      rcases h2 with ⟨h3, h4⟩ | ⟨h3, h4⟩
      · exact .inl ⟨by omega, by simpa using h4⟩
      · exact .inr ⟨by omega, by simpa using h4⟩
/-- What an append reads of prices in memory. -/
theorem Prs.news {w : World} {b off : Nat} {L : List Pr} (h : Prs w (some ⟨b, off, none⟩) L) : ∀ j u, (flatP L)[j]? = some u → w.cell? ((⟨b, off, none⟩ : Addr).add j) = some u := by
  intro j u hu
  rw [Go.WideShapes.add_plain]
  obtain ⟨k, hk, h2⟩ := flatP_at L j u hu
  obtain ⟨b', off', e, _, d0, d1⟩ := h k hk
  cases e
  rcases h2 with ⟨rfl, rfl⟩ | ⟨rfl, rfl⟩
  · exact d0
  · rw [← Nat.add_assoc]; exact d1
end Go.Proofs.Ytakpoabpgdmneaa.Pl
