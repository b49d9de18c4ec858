/- The statement of journal on tidied lines. -/
import Derived.Test.YtnblilonjpfdnaaJnHead
import Derived.Test.YtnblilonjpfdnaaJnRTidy
namespace Go.Proofs.Ytnblilonjpfdnaa.Jn
open Go Go.RowKit Ck
def LnC (w : World) (cap : Nat) (a : Option Addr) (L : List Ln) : Prop := Lns w a L ∧ (a = none → cap = 0 ∧ L.length = 0) ∧ L.length ≤ cap
def Ln.Fits (x : Ln) : Prop := InR x.key ∧ I64 x.amt
/-- What append of lines that came in wants. -/
theorem LnC.news {w : World} {cap : Nat} {a : Option Addr} {L : List Ln} (h : LnC w cap a L) {u : World} (hu : Below w.heap.size w u) : (a = none ∧ L.length = 0 ∧ cap = 0 ∧ flatL L = []) ∨ ∃ ad, a = some ad ∧ (flatL L).length = L.length * 4 ∧ ∀ j v, (flatL L)[j]? = some v → u.cell? (ad.add j) = some v := by
  cases a with
  | none =>
    obtain ⟨h1, h2⟩ := h.2.1 rfl
    exact .inl ⟨rfl, h2, h1, by rw [List.length_eq_zero_iff.1 h2]; rfl⟩
  | some ad =>
    refine .inr ⟨ad, rfl, flatL_len L, fun j v hv => ?_⟩
    have hj : j < L.length * 4 := by rw [← flatL_len]; exact (List.getElem?_eq_some_iff.1 hv).1
    obtain ⟨b, off, hb, _⟩ := h.1 (j / 4) (by omega)
    injection hb with hb
    subst hb
    exact lns_news (h.1.later hu) j v hv
section
set_option maxRecDepth 100000
set_option maxHeartbeats 3200000
theorem tidies_law (L : List Ln) (a : Option Addr) (cap : Nat) (w : World) (h : LnC w cap a L) (hf : ∀ x ∈ L, x.Fits) (hl : L.length ≤ maxLen) : Calls Try.prog 4 #[.slice a L.length cap] w fun e w' => e = .returned (.bool true) ∧ Below w.heap.size w w' := by
  have KH := Lib.hid head_c
  by_cases hbig : 60 < (L.length : Int)
  · have hl9 : (L.length : Int) ≤ 9223372036854775807 := by unfold maxLen at hl; omega
    clear h hf
    go_enter Try.func4, Try.ntmps4
    go_wp2_with fail
    refine (KH.out _).mono ?_
    rintro _ w1 ⟨rfl, hb1⟩
    go_wp2_with fail
    go_ret
    exact ⟨rfl, hb1⟩
  · have H := Lib.hid h
    have HR : Hid (∀ x ∈ L, InR x.key) := fun x hx => (hf x hx).1
    have hsm : (L.length : Int) ≤ 60 := by omega
    have HSM : Hid (L.length ≤ 60) := by show _ ≤ _; omega
    obtain ⟨i4, z4, hk0, hk1, hk2, hk3, hk4⟩ := info_ln
    have HN := Lib.hid (h.news ((Below.refl _ w).alloc (Nat.le_refl _) (.cells #[] TLine)))
    clear h hf hbig hl
    go_enter Try.func4, Try.ntmps4
    go_wp2_with (at_builtin; refine Ch.wpList_append_any rfl _ _ TLines rfl w.heap.size TLine i4 z4 4 32 Try.underlying23 hk0 hk1 hk2 hk3 hk4 (by decide) _ 0 [] rfl (Ch.own_zero _ _ _ _ (Nat.le_refl _)) _ L.length cap (flatL L) rfl HN.out (flatL_one _) (by have := HSM.out; unfold maxLen; omega) (by have := HSM.out; omega) (by simp) ?_)
    intro v1 w1 hown1 hg1 hat1
    have HB1 : Hid (Below w.heap.size w w1) := ((Below.refl _ w).alloc (Nat.le_refl _) _).grown hg1 (by simp) (fun j hj => by cases hj; exact Nat.le_refl _)
    obtain ⟨oa, oc, hv, hlns, _⟩ := lns_own hown1
    subst hv
    have HO1 := Lib.hid hlns
    clear hown1 hg1 hat1 hlns HN
    have KT := Lib.hid (tidy_c L oa oc w1 HO1.out HR.out (by have := HSM.out; omega))
    go_wp2_with fail
    refine KT.out.mono ?_
    rintro _ w2 ⟨hb2, hr2⟩
    have HB2 : Hid (Below w.heap.size w w2) := HB1.out.trans (hb2.mono HB1.out.size)
    have HO2 := Lib.hid (HO1.out.later hb2)
    have HR2 := Lib.hid hr2
    have KR := Lib.hid (rtidy_c L a cap w2 (H.out.1.later HB2.out) (by have := HSM.out; omega))
    clear KT hb2 hr2 HB1 HO1
    rcases HR2.out with ⟨htok, T, v2, hT, he, hown2, hTL⟩ | ⟨htok, he⟩
    · obtain ⟨ta, tc, hv2, hlt2, _⟩ := lns_own hown2
      subst hv2
      subst he
      have HT2 := Lib.hid hlt2
      have HTD := Lib.hid hT
      have HTK := Lib.hid htok
      have HTL := Lib.hid hTL
      clear hlt2 hT htok hTL hown2 HR2
      go_wp2_with fail
      refine KR.out.mono ?_
      rintro _ w3 ⟨hb3, hr3⟩
      have HB3 : Hid (Below w.heap.size w w3) := HB2.out.trans (hb3.mono HB2.out.size)
      have HO3 := Lib.hid (HO2.out.later hb3)
      have HT3 := Lib.hid (HT2.out.later hb3)
      rcases hr3 with ⟨_, T', v3, hT', he, hown3, _⟩ | ⟨hno, _⟩
      · obtain rfl := HTD.out.uniq hT'
        obtain ⟨ra, rc, hv3, hlt3, _⟩ := lns_own hown3
        subst hv3
        subst he
        have KS1 := Lib.hid (sameL_c T ta ra tc rc w3 HT3.out hlt3 (by have h1 := HTL.out; have h2 := HSM.out; omega))
        clear hT' hown3 hb3 hlt3 HB2 HO2 HT2 KR
        go_wp2_with fail
        refine KS1.out.mono ?_
        rintro _ w4 ⟨rfl, hb4⟩
        have HB4 : Hid (Below w.heap.size w w4) := HB3.out.trans (hb4.mono HB3.out.size)
        have KS2 := Lib.hid (sameL_c L oa a oc cap w4 (HO3.out.later hb4) (H.out.1.later HB4.out) (by have h2 := HSM.out; omega))
        clear hb4 KS1 HB3 HO3
        go_wp2_with fail
        refine KS2.out.mono ?_
        rintro _ w5 ⟨rfl, hb5⟩
        have HB5 : Hid (Below w.heap.size w w5) := HB4.out.trans (hb5.mono HB4.out.size)
        clear hb5 KS2 HB4
        go_wp2_with fail
        refine (KH.out _).mono ?_
        rintro _ w6 ⟨rfl, hb6⟩
        have HB6 : Hid (Below w.heap.size w w6) := HB5.out.trans (hb6.mono HB5.out.size)
        clear hb6 HB5
        go_wp2_with fail
        go_ret
        exact ⟨rfl, HB6.out⟩
      · rw [HTK.out] at hno; cases hno
    · subst he
      have HTK := Lib.hid htok
      clear htok HR2
      go_wp2_with fail
      refine KR.out.mono ?_
      rintro _ w3 ⟨hb3, hr3⟩
      have HB3 : Hid (Below w.heap.size w w3) := HB2.out.trans (hb3.mono HB2.out.size)
      have HO3 := Lib.hid (HO2.out.later hb3)
      rcases hr3 with ⟨hyes, _⟩ | ⟨_, he⟩
      · rw [HTK.out] at hyes; cases hyes
      · subst he
        have KS1 := Lib.hid (sameL_c [] none none 0 0 w3 (fun j hj => absurd hj (by simp)) (fun j hj => absurd hj (by simp)) (by simp))
        rw [List.length_nil] at KS1
        clear hb3 HB2 HO2 KR
        go_wp2_with fail
        refine KS1.out.mono ?_
        rintro _ w4 ⟨rfl, hb4⟩
        have HB4 : Hid (Below w.heap.size w w4) := HB3.out.trans (hb4.mono HB3.out.size)
        have KS2 := Lib.hid (sameL_c L oa a oc cap w4 (HO3.out.later hb4) (H.out.1.later HB4.out) (by have h2 := HSM.out; omega))
        clear hb4 KS1 HB3 HO3
        go_wp2_with fail
        refine KS2.out.mono ?_
        rintro _ w5 ⟨rfl, hb5⟩
        have HB5 : Hid (Below w.heap.size w w5) := HB4.out.trans (hb5.mono HB4.out.size)
        clear hb5 KS2 HB4
        go_wp2_with fail
        refine (KH.out _).mono ?_
        rintro _ w6 ⟨rfl, hb6⟩
        have HB6 : Hid (Below w.heap.size w w6) := HB5.out.trans (hb6.mono HB5.out.size)
        clear hb6 HB5
        go_wp2_with fail
        go_ret
        exact ⟨rfl, HB6.out⟩
end
end Go.Proofs.Ytnblilonjpfdnaa.Jn
