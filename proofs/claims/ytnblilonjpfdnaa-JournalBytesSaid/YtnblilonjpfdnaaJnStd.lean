/- Package journal: the laws' chart. -/
import Derived.Test.YtnblilonjpfdnaaJnOn
namespace Go.Proofs.Ytnblilonjpfdnaa.Jn
open Go Go.RowKit Ck Ch
def codes : List Int := [1100, 1200, 2100, 2200, 3100, 4100]
theorem validB_of (a : A5) (h1 : 1 ≤ a.code ∧ a.code ≤ 9999) (h2 : sideM a.cls ≠ 0) (h3 : a.name.data.toList.isEmpty = false) (h4 : a.name.size ≤ 60) (h5 : a.shut = false) : a.validB = true := by
  unfold A5.validB
  rw [ByteArray.toList_eq, h3, h5]
  simp [h1.1, h1.2, h2, h4]
theorem std_valid : ∀ x ∈ stdL, x.validB = true ∧ x.up = 0 ∧ sideM x.cls ≠ 0 ∧ x.Fits := by
  intro x hx
  unfold stdL at hx
  simp only [List.mem_cons, List.not_mem_nil, or_false] at hx
  rcases hx with rfl | rfl | rfl | rfl | rfl | rfl <;> exact ⟨validB_of _ (by decide) (by decide) rfl (by decide) rfl, rfl, by decide, by unfold Ch.I64; decide, by unfold Ch.I64; decide, by decide⟩
theorem std_code (i : Nat) (hi : i < 6) : (stdL[i]'hi).code = codes[i]'hi := by
  match i, hi with
  | 0, _ => rfl
  | 1, _ => rfl
  | 2, _ => rfl
  | 3, _ => rfl
  | 4, _ => rfl
  | 5, _ => rfl
theorem codes_new (i : Nat) (hi : i < 6) : codes[i]'hi ∉ codes.take i := by
  match i, hi with
  | 0, _ => unfold codes; simp
  | 1, _ => unfold codes; simp
  | 2, _ => unfold codes; simp
  | 3, _ => unfold codes; simp
  | 4, _ => unfold codes; simp
  | 5, _ => unfold codes; simp
def addAll (M : Int → Option Acc) (A : List A5) : Int → Option Acc := A.foldl (fun M x => (addM M x).1) M
theorem addAll_snoc (M : Int → Option Acc) (A : List A5) (x : A5) : addAll M (A ++ [x]) = (addM (addAll M A) x).1 := by unfold addAll; rw [List.foldl_append]; rfl
def noneM : Int → Option Acc := fun _ => none
def stdM0 : Int → Option Acc := addAll noneM stdL
def shortB (x : A5) : Bool := decide (x.name.size ≤ 200)
def stdM (A : List A5) : Int → Option Acc := addAll stdM0 (A.filter shortB)
/-- What the standard's chart has. -/
structure Inv2 (i : Nat) (M : Int → Option Acc) : Prop where
  only : ∀ c, (M c).isSome = true → c ∈ codes.take i
  has : ∀ j, ∀ h : j < 6, j < i → ∃ p, M (codes[j]'h) = some p ∧ p.shut = false ∧ p.kids = 0
theorem inv2_step {i : Nat} {M : Int → Option Acc} (h : Inv2 i M) (hi : i < 6) : Inv2 (i + 1) (addM M (stdL[i]'hi)).1 := by
  obtain ⟨x, hx⟩ : ∃ x, x = stdL[i]'hi := ⟨_, rfl⟩
  rw [← hx]
  obtain ⟨hv, hu, _, _⟩ := std_valid x (hx ▸ List.getElem_mem hi)
  have hc : x.code = codes[i]'hi := by rw [hx]; exact std_code i hi
  have hta : codes.take (i + 1) = codes.take i ++ [x.code] := by rw [hc]; exact List.take_succ_eq_append_getElem hi
  have hn : ¬ (M x.code).isSome = true := fun hs => by
    have := h.only _ hs
    rw [hc] at this
    exact codes_new i hi this
  have e : addM M x = (Ch.upd M x.code ⟨x.code, x.up, x.cls, x.name, x.shut, ((M 0).getD Acc.zero).depth + 1, 0⟩, 0) := by
    unfold addM
    rw [if_neg (by rw [hv]; decide), if_neg hn, if_pos hu]
  have hsh : x.shut = false := by
    have := hv
    unfold A5.validB at this
    simp at this
    exact this.2
  rw [e]
  refine ⟨fun c hcs => ?_, fun j hj hji => ?_⟩
  · rw [hta, List.mem_append]
    by_cases e1 : c = x.code
    · right; simp [e1]
    · left
      refine h.only c ?_
      have : (Ch.upd M x.code ⟨x.code, x.up, x.cls, x.name, x.shut, ((M 0).getD Acc.zero).depth + 1, 0⟩) c = M c := if_neg e1
      rw [← this]; exact hcs
  · by_cases e1 : j = i
    · subst e1
      exact ⟨_, if_pos hc.symm, hsh, rfl⟩
    · obtain ⟨p, h1, h2⟩ := h.has j hj (by omega)
      refine ⟨p, ?_, h2⟩
      have hne : codes[j]'hj ≠ x.code := fun e2 => by
        rw [hc] at e2
        refine codes_new i hi ?_
        rw [← e2]
        exact List.mem_take_iff_getElem.2 ⟨j, by simp only [codes, List.length_cons, List.length_nil]; omega, rfl⟩
      exact (if_neg hne).trans h1
theorem inv2_all : ∀ i, i ≤ 6 → Inv2 i (addAll noneM (stdL.take i))
  | 0, _ => ⟨fun c h => (by cases h), fun j _ hj => absurd hj (by omega)⟩
  | i + 1, h => by
    have := inv2_step (inv2_all i (by omega)) (show i < 6 by omega)
    rw [List.take_succ_eq_append_getElem (show i < stdL.length from h), addAll_snoc]
    exact this
theorem std_has (j : Nat) (h : j < 6) : ∃ p, stdM [] (codes[j]'h) = some p ∧ p.shut = false ∧ p.kids = 0 := (inv2_all 6 (by omega)).has j h h
theorem line_std (x : Ln) (j : Nat) (h : j < 6) (hx : x.acc = codes[j]'h) : lineOn (stdM []) x = 0 := by
  obtain ⟨p, h1, h2, h3⟩ := std_has j h
  unfold lineOn getM leafM
  rw [hx, h1]
  simp [Acc.told, h2, h3]
section
set_option maxRecDepth 100000
set_option maxHeartbeats 1600000
theorem standard_c (A : List A5) (a : Option Addr) (cap : Nat) (w : World) (h : Acs w a A) (hf : ∀ x ∈ A, x.Fits) (hl : A.length ≤ 1000) : Calls Try.prog 10 #[.slice a A.length cap] w fun e w' => ∃ c K N, e = .returned (.pointer (some ⟨c, 0, none⟩)) ∧ Ct w.heap.size w' c (stdM A) K N ∧ N ≤ 1006 ∧ Ch.Left w.heap.size w w' := by
  have H := Lib.hid h
  have HF := Lib.hid hf
  have HL := Lib.hid hl
  obtain ⟨lo, hlo⟩ : ∃ lo, lo = w.heap.size := ⟨_, rfl⟩
  have HLO := Lib.hid hlo
  clear h hf hl hlo
  go_enter Try.func10, Try.ntmps10
  go_wp2_with fail
  refine (ct_new w).mono ?_
  rintro _ w1 ⟨c, rfl, hct1, hl1⟩
  go_wp2_with fail
  refine (std_c w1).mono ?_
  rintro _ w2 ⟨b, rfl, hb, hr, hb2⟩
  have HL2 : Hid (Ch.Left w.heap.size w w2) := hl1.trans (Ch.Left.of hb2 hl1.b.size)
  have HC2 : Hid (∃ K N, N ≤ 0 ∧ Ct w.heap.size w2 c (addAll noneM (stdL.take 0)) K N) := ⟨_, 0, Nat.le_refl _, hct1.later hb2⟩
  have HR2 := Lib.hid hr
  clear hct1 hl1 hb hr hb2
  go_upto_region 4 with (fail)
  go_loopg [5] 6 (fun kx s5 wr => ∃ i : Nat, s5 = .int .i64 (i : Int) ∧ i ≤ 6 ∧ Hid (Ch.Left w.heap.size w wr) ∧ Hid (∃ K N, N ≤ i ∧ Ct w.heap.size wr c (addAll noneM (stdL.take i)) K N) ∧ Hid (Rw wr b TAc (flatA stdL)) ∧ 6 ≤ i + kx)
  case atStart => exact ⟨0, rfl, by omega, HL2.out, HC2.out, HR2.out, by omega⟩
  case round =>
    obtain ⟨i, rfl, hi9, HL3, HC3, HR3, hkx⟩ := hrel
    by_cases hlt : i < 6
    · have key := flatA_at stdL i hlt
      obtain ⟨x, hx⟩ : ∃ x, x = stdL[i]'hlt := ⟨_, rfl⟩
      have HFX : Hid x.Fits := (std_valid x (hx ▸ List.getElem_mem hlt)).2.2.2
      have HS : Hid (addAll noneM (stdL.take (i + 1)) = (addM (addAll noneM (stdL.take i)) x).1) := by
        show _ = _
        rw [List.take_succ_eq_append_getElem (show i < stdL.length from hlt), addAll_snoc, hx]
        rfl
      have c0 : wr.cell? ⟨b, i * 5, none⟩ = some (.int .i64 x.code) := (HR3.out.cell _).trans (by rw [hx]; exact key 0 _ rfl)
      have c1 : wr.cell? ⟨b, i * 5 + 1, none⟩ = some (.int .i64 x.up) := (HR3.out.cell _).trans (by rw [hx]; exact key 1 _ rfl)
      have c2 : wr.cell? ⟨b, i * 5 + 2, none⟩ = some (.int .u8 x.cls) := (HR3.out.cell _).trans (by rw [hx]; exact key 2 _ rfl)
      have c3 : wr.cell? ⟨b, i * 5 + 3, none⟩ = some (.string x.name) := (HR3.out.cell _).trans (by rw [hx]; exact key 3 _ rfl)
      have c4 : wr.cell? ⟨b, i * 5 + 4, none⟩ = some (.bool x.shut) := (HR3.out.cell _).trans (by rw [hx]; exact key 4 _ rfl)
      obtain ⟨K, N, hN, hct⟩ := HC3.out
      have KA := Lib.hid (ct_add hct HL3.out.b.size x HFX.out (by omega))
      have HN := Lib.hid hN
      have HLT := Lib.hid hlt
      have HKX := Lib.hid hkx
      have j0 : (0 : Int) ≤ (i : Int) := by omega
      have j1 : (i : Int) < 6 := by omega
      clear key hx hN hct hlt hkx HC3
      obtain ⟨xc, xu, xk, xn, xs⟩ := x
      unfold A5.val ARes at KA
      simp only at c0 c1 c2 c3 c4 KA
      go_wp2_with fail
      refine KA.out.mono ?_
      rintro _ w3 ⟨rfl, ⟨K3, hct3⟩, hl3⟩
      have HL4 : Hid (Ch.Left w.heap.size w w3) := HL3.out.trans hl3
      have HR4 := Lib.hid (hl3.s.rw HR3.out)
      have HC4 : Hid (∃ K N, N ≤ i + 1 ∧ Ct w.heap.size w3 c (addAll noneM (stdL.take (i + 1))) K N) := ⟨K3, N + 1, by have := HN.out; omega, by rw [HS.out]; exact hct3⟩
      clear c0 c1 c2 c3 c4 KA hct3 hl3 HL3 HR3
      go_wp2_with fail
      have hlt := HLT.out
      have hkx := HKX.out
      go_roundg (6 - (i + 1))
      case measure => omega
      case rel => exact ⟨i + 1, by simp, by omega, HL4, HC4, HR4, by omega⟩
    · obtain rfl : i = 6 := by omega
      clear hkx hlt hi9 HR3 HL2 HC2 HR2
      have HC5 : Hid (∃ K N, N ≤ 6 + 0 ∧ Ct w.heap.size wr c (addAll stdM0 ((A.take 0).filter shortB)) K N) := HC3.out
      have HL5 := HL3
      clear HC3 HL3
      generalize wr = wq at HC5 HL5 ⊢
      go_upto_region 8 with (fail)
      go_loopg [6] A.length (fun kx s6 wr => ∃ i : Nat, s6 = .int .i64 (i : Int) ∧ i ≤ A.length ∧ Hid (Ch.Left w.heap.size w wr) ∧ Hid (∃ K N, N ≤ 6 + i ∧ Ct w.heap.size wr c (addAll stdM0 ((A.take i).filter shortB)) K N) ∧ A.length ≤ i + kx)
      case atStart => exact ⟨0, rfl, by omega, HL5.out, HC5.out, by omega⟩
      case round =>
        obtain ⟨i, rfl, hi9, HL3, HC3, hkx⟩ := hrel
        by_cases hlt : i < A.length
        · obtain ⟨ab, ao, rfl, _, hc⟩ := (H.out.later HL3.out.b) i hlt
          have c0 := hc 0 _ rfl
          have c1 := hc 1 _ rfl
          have c2 := hc 2 _ rfl
          have c3 := hc 3 _ rfl
          have c4 := hc 4 _ rfl
          have HFX : Hid (A[i].Fits) := HF.out _ (List.getElem_mem hlt)
          have HS : Hid (addAll stdM0 ((A.take (i + 1)).filter shortB) = if shortB A[i] = true then (addM (addAll stdM0 ((A.take i).filter shortB)) A[i]).1 else addAll stdM0 ((A.take i).filter shortB)) := by
            show _ = _
            rw [List.take_succ_eq_append_getElem hlt, List.filter_append]
            cases hs : shortB A[i] with
            | true => rw [if_pos rfl, List.filter_cons_of_pos hs, List.filter_nil, addAll_snoc]
            | false => rw [if_neg (by decide), List.filter_cons_of_neg (by rw [hs]; decide), List.filter_nil, List.append_nil]
          obtain ⟨x, hx⟩ : ∃ x, x = A[i] := ⟨_, rfl⟩
          rw [← hx] at c0 c1 c2 c3 c4 HFX HS
          rw [Nat.add_zero] at c0
          obtain ⟨K, N, hN, hct⟩ := HC3.out
          have j0 : (0 : Int) ≤ (i : Int) := by omega
          have j1 : (i : Int) < (A.length : Int) := by omega
          have j2 : A.length ≤ 1000 := HL.out
          have KA := Lib.hid (ct_add hct HL3.out.b.size x HFX.out (by omega))
          have HN := Lib.hid hN
          have HCT := Lib.hid hct
          have HLT := Lib.hid hlt
          have HKX := Lib.hid hkx
          clear hc hx hN hct hlt hkx HC3
          obtain ⟨xc, xu, xk, xn, xs⟩ := x
          have hz : xn.size ≤ 9223372036854775807 := HFX.out.name
          unfold A5.val ARes at KA
          have hsb : shortB ⟨xc, xu, xk, xn, xs⟩ = decide (xn.size ≤ 200) := rfl
          rw [hsb] at HS
          clear hsb
          simp only at c0 c1 c2 c3 c4 KA
          by_cases hz2 : (xn.size : Int) ≤ 200
          · rw [if_pos (by simp; omega)] at HS
            go_wp2_with fail
            refine KA.out.mono ?_
            rintro _ w3 ⟨rfl, ⟨K3, hct3⟩, hl3⟩
            have HL4 : Hid (Ch.Left w.heap.size w w3) := HL3.out.trans hl3
            have HC4 : Hid (∃ K N, N ≤ 6 + (i + 1) ∧ Ct w.heap.size w3 c (addAll stdM0 ((A.take (i + 1)).filter shortB)) K N) := ⟨K3, N + 1, by have := HN.out; omega, by rw [HS.out]; exact hct3⟩
            clear c0 c1 c2 c3 c4 KA hct3 hl3 HL3 HCT
            go_wp2_with fail
            have hlt := HLT.out
            have hkx := HKX.out
            go_roundg (A.length - (i + 1))
            case measure => omega
            case rel => exact ⟨i + 1, by simp, by omega, HL4, HC4, by omega⟩
          · rw [if_neg (by simp; omega)] at HS
            have HC4 : Hid (∃ K N, N ≤ 6 + (i + 1) ∧ Ct w.heap.size wr c (addAll stdM0 ((A.take (i + 1)).filter shortB)) K N) := ⟨K, N, by have := HN.out; omega, by rw [HS.out]; exact HCT.out⟩
            clear KA HCT
            go_wp2_with fail
            have hlt := HLT.out
            have hkx := HKX.out
            go_roundg (A.length - (i + 1))
            case measure => omega
            case rel => exact ⟨i + 1, by simp, by omega, HL3, HC4, by omega⟩
        · obtain rfl : i = A.length := by omega
          rw [List.take_length] at HC3
          clear hkx hlt hi9
          obtain ⟨K, N, hN, hct⟩ := HC3.out
          have HN := Lib.hid hN
          have HCT := Lib.hid hct
          clear hN hct HC3
          go_wp2_with fail
          go_ret
          exact ⟨c, K, N, rfl, HCT.out, by have h1 := HN.out; have h2 := HL.out; omega, HL3.out⟩
end
end Go.Proofs.Ytnblilonjpfdnaa.Jn
