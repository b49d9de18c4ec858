/- Package chart: the document's At, Is, depth. -/
import Derived.Test.YtialclecoamobaaChGm
namespace Go.Proofs.Ytialclecoamobaa.Ch
open Go Go.RowKit Ck Go.Maps
theorem lst_len (M : Int → Option Acc) (K : List Int) : (lst M K).length = K.length := by unfold lst; simp
/-- An account in a row. -/
structure Five (w : World) (b o : Nat) (k u c : Int) (n : ByteArray) (s : Bool) : Prop where
  c0 : w.cell? ⟨b, o, none⟩ = some (.int .i64 k)
  c1 : w.cell? ⟨b, o + 1, none⟩ = some (.int .i64 u)
  c2 : w.cell? ⟨b, o + 2, none⟩ = some (.int .u8 c)
  c3 : w.cell? ⟨b, o + 3, none⟩ = some (.string n)
  c4 : w.cell? ⟨b, o + 4, none⟩ = some (.bool s)
theorem Acs.five {w : World} {a : Option Addr} {A : List A5} (h : Acs w a A) {i : Nat} (hi : i < A.length) : ∃ b off, a = some ⟨b, off, none⟩ ∧ Five w b (off + i * 5) A[i].code A[i].up A[i].cls A[i].name A[i].shut := by
  obtain ⟨b, off, ha, _, hc⟩ := h i hi
  exact ⟨b, off, ha, hc 0 _ rfl, hc 1 _ rfl, hc 2 _ rfl, hc 3 _ rfl, hc 4 _ rfl⟩
section
variable {w : World} {a : Option Addr} {M : Int → Option Acc} {K : List Int}
theorem Gm.at' (g : Gm M K) {i : Nat} (hi : i < K.length) : ∃ p, M K[i] = some p ∧ (lst M K)[i]'(by rw [lst_len]; exact hi) = p.told ∧ p.code = K[i] := by
  have hs := (g.ks.mem _).1 (List.getElem_mem hi)
  cases hm : M K[i] with
  | none => rw [hm] at hs; cases hs
  | some p =>
    refine ⟨p, rfl, ?_, g.code _ p hm⟩
    unfold lst
    rw [List.getElem_map, hm]
    rfl
theorem Gm.five (g : Gm M K) (h : Acs w a (lst M K)) {i : Nat} (hi : i < K.length) : ∃ b off p, a = some ⟨b, off, none⟩ ∧ M K[i] = some p ∧ Five w b (off + i * 5) K[i] p.up p.cls p.name p.shut := by
  obtain ⟨p, h1, h2, h3⟩ := g.at' hi
  obtain ⟨b, off, ha, hf⟩ := h.five (i := i) (by rw [lst_len]; exact hi)
  rw [h2] at hf
  refine ⟨b, off, p, ha, h1, ?_⟩
  rw [← h3]
  exact hf
def AtRes (K : List Int) (code : Int) (w : World) (e : Ending) (w' : World) : Prop := w = w' ∧ ∃ z : Int, e = .returned (.int .i64 z) ∧ (z = -1 ∧ code ∉ K ∨ ∃ (i : Nat) (h : i < K.length), K[i] = code ∧ z = (i : Int))
set_option maxRecDepth 100000 in
set_option maxHeartbeats 1600000 in
theorem at_c (g : Gm M K) (cap : Nat) (code : Int) (h : Acs w a (lst M K)) : Calls Try.prog 24 #[.slice a K.length cap, .int .i64 code] w (AtRes K code w) := by
  have G := Lib.hid g
  have H := Lib.hid h
  have hK9 := g.wd.few g.ks
  clear g h
  go_enter Try.func24, Try.ntmps24
  go_wp2_with fail
  go_loopg [5] K.length (fun kx s5 wr => ∃ i : Nat, s5 = .int .i64 (i : Int) ∧ i ≤ K.length ∧ w = wr ∧ Hid (∀ j (h : j < K.length), j < i → K[j] ≠ code) ∧ K.length ≤ i + kx)
  case atStart => exact ⟨0, rfl, Nat.zero_le _, rfl, fun j _ hj => by omega, by omega⟩
  case round =>
    obtain ⟨i, rfl, hi9, rfl, HJ, hkx⟩ := hrel
    by_cases hlt : i < K.length
    · obtain ⟨b, off, p, rfl, hp, hf⟩ := G.out.five H.out hlt
      have c0 := hf.c0
      have j0 : (0 : Int) ≤ (i : Int) := by omega
      have j1 : (i : Int) < (K.length : Int) := by omega
      obtain ⟨k, hk⟩ : ∃ k, k = K[i] := ⟨_, rfl⟩
      rw [← hk] at c0
      have HK := Lib.hid hk
      clear hf hp hk
      by_cases he : k = code
      · subst he
        go_wp2_with fail
        go_ret
        exact ⟨rfl, _, rfl, .inr ⟨i, hlt, HK.out.symm, rfl⟩⟩
      · have be : (k == code) = false := by simpa using he
        have HJ2 : Hid (∀ j (h : j < K.length), j < i + 1 → K[j] ≠ code) := fun j hj hji => by
          by_cases e : j = i
          · subst e; rw [← HK.out]; exact he
          · exact HJ.out j hj (by omega)
        clear he HJ HK
        go_wp2_with fail
        go_roundg (K.length - (i + 1))
        case measure => omega
        case rel => exact ⟨i + 1, by simp, by omega, rfl, HJ2, by omega⟩
    · obtain rfl : i = K.length := by omega
      clear hkx hlt hi9
      go_wp2_with fail
      go_ret
      exact ⟨rfl, _, rfl, .inl ⟨rfl, fun hm => by
        obtain ⟨j, hj, e⟩ := List.getElem_of_mem hm
        exact HJ.out j hj hj e⟩⟩
set_option maxRecDepth 100000 in
set_option maxHeartbeats 1600000 in
theorem is_ref (g : Gm M K) (cap : Nat) (code u : Int) (h : Acs w a (lst M K)) : Calls Try.prog 25 #[.slice a K.length cap, .int .i64 code, .int .i64 u] w fun e w' => e = .returned (.bool (und M u code)) ∧ w = w' := by
  have G := Lib.hid g
  have H := Lib.hid h
  have KA : Hid (∀ code, Calls Try.prog 24 #[.slice a K.length cap, .int .i64 code] w (AtRes K code w)) := fun code => at_c g cap code h
  obtain ⟨r, hr⟩ : ∃ r, r = und M u code := ⟨_, rfl⟩
  rw [← hr]
  have hK9 := g.wd.few g.ks
  have HR := Lib.hid hr
  clear g h hr
  go_enter Try.func25, Try.ntmps25
  go_wp2_with fail
  go_loopg [1] 8 (fun kx s1 wr => ∃ b : Int, s1 = .int .i64 b ∧ w = wr ∧ Hid (und M u b = r) ∧ Hid (∀ p, M b = some p → p.depth ≤ kx))
  case atStart => exact ⟨code, rfl, rfl, HR.out.symm, fun p hp => (G.out.wd.deep _ p hp).2⟩
  case round =>
    obtain ⟨b, rfl, rfl, HU, HD⟩ := hrel
    go_wp2_with fail
    refine (KA.out b).mono ?_
    rintro e w1 ⟨rfl, z, rfl, hz⟩
    rcases hz with ⟨rfl, hn⟩ | ⟨i, hi, hkb, rfl⟩
    · have hmn : M b = none := by
        cases hm : M b with
        | none => rfl
        | some p => exact absurd ((G.out.ks.mem b).2 (by rw [hm]; rfl)) hn
      have hrf : r = false := by rw [← HU.out]; exact und_no hmn u
      subst hrf
      clear hn hmn
      go_wp2_with fail
      go_ret
      exact ⟨rfl, rfl⟩
    · obtain ⟨ab, off, p, rfl, hp, hf⟩ := G.out.five H.out hi
      rw [hkb] at hp
      have HI := Lib.hid hi
      have c1 := hf.c1
      have hstep := G.out.wd.step hp u
      rw [HU.out] at hstep
      have hd := G.out.wd.deep _ p hp
      have hd2 := HD.out p hp
      have HF : Hid (∀ q, M p.up = some q → q.depth ≤ ((gk - 1 : Nat) : Int)) := fun q hq => by
        rcases G.out.wd.up _ p hp with e2 | ⟨q', e1, e2⟩
        · rw [e2, G.out.wd.zero] at hq; cases hq
        · rw [hq] at e1; cases e1; omega
      have hgk : 1 ≤ gk := by omega
      obtain ⟨pu, hpu⟩ : ∃ pu, pu = p.up := ⟨_, rfl⟩
      rw [← hpu] at c1 hstep HF
      have KA2 := Lib.hid (KA.out b)
      have HK := Lib.hid hkb
      clear hp hf hd hd2 HU HD hkb hpu HR
      by_cases he : b = u
      · have hrf : r = true := by rw [hstep, he]; simp
        subst hrf
        subst he
        clear hstep
        go_wp2_with fail
        go_ret
        exact ⟨rfl, rfl⟩
      · have be : (b == u) = false := by simpa using he
        have HS : Hid (und M u pu = r) := by show _ = _; rw [hstep]; simp [he]
        clear hstep he
        go_wp2_with fail
        refine KA2.out.mono ?_
        rintro e w1 ⟨rfl, z, rfl, hz⟩
        have hz' : z = (i : Int) := by
          rcases hz with ⟨_, hn⟩ | ⟨j, hj, e1, rfl⟩
          · exact absurd (HK.out ▸ List.getElem_mem HI.out) hn
          · have hup := G.out.ks.up
            rw [← HK.out] at e1
            rcases Nat.lt_trichotomy i j with h | h | h
            · have := up_le hup h hj; omega
            · rw [h]
            · have := up_le hup h HI.out; omega
        subst hz'
        clear hz
        have j0 : (0 : Int) ≤ (i : Int) := by omega
        have j1 : (i : Int) < (K.length : Int) := by omega
        go_wp2_with fail
        go_roundg (gk - 1)
        case measure => omega
        case rel => exact ⟨pu, rfl, rfl, HS, HF⟩
end
end Go.Proofs.Ytialclecoamobaa.Ch
