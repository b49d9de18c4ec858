/- The statement of journal on bytes. -/
import Derived.Test.YtnblilonjpfdnaaJnLaw5
import Derived.Test.YtnblilonjpfdnaaJnGet
import Derived.Test.YtnblilonjpfdnaaJnRGet
namespace Go.Proofs.Ytnblilonjpfdnaa.Jn
open Go Go.RowKit Ck
theorem bs_back (t : ByteArray) : bs t.data.toList = t := by
  unfold bs
  apply ByteArray.ext
  simp
def GetF (D K S : Int) (R : List Ln) (z : Int) (w : World) (e : Ending) (w' : World) : Prop := ∃ ra rc, e = .returned (.tuple #[.agg #[.int .i64 D, .int .u8 K, .int .u64 S, .slice ra R.length rc], .int .i64 z]) ∧ Lns w' ra R ∧ Below w.heap.size w w'
theorem get_known {B : List UInt8} {d k s : Int} {L : List Ln} (h : IsEn B d k s L) {w w' : World} {e : Ending} (hg : GetR B w e w') : GetF d k s L 0 w e w' := by
  obtain ⟨hb, ⟨d', k', s', L', v, h', he, ho⟩ | ⟨hno, _⟩⟩ := hg
  · obtain ⟨rfl, rfl, rfl, rfl⟩ := isEn_uniq h h'
    obtain ⟨a, cap, rfl, h3, _⟩ := lns_own ho
    exact ⟨a, cap, he, h3, hb⟩
  · exact absurd h (hno d k s L)
theorem get_form (B : List UInt8) : ∃ D K S R z, ((z = 0 ∧ IsEn B D K S R) ∨ z = 5) ∧ R.length ≤ 64 ∧ ∀ w e w', GetR B w e w' → GetF D K S R z w e w' := by
  by_cases h : ∃ d k s L, IsEn B d k s L
  · obtain ⟨d, k, s, L, h⟩ := h
    exact ⟨d, k, s, L, 0, .inl ⟨rfl, h⟩, h.rg.2.1.2, fun w e w' hg => get_known h hg⟩
  · refine ⟨0, 0, 0, [], 5, .inr rfl, by simp, fun w e w' hg => ?_⟩
    obtain ⟨hb, ⟨d', k', s', L', v, h', _⟩ | ⟨_, he⟩⟩ := hg
    · exact absurd ⟨d', k', s', L', h'⟩ h
    · exact ⟨none, 0, he, fun j hj => absurd hj (by simp), hb⟩
section
set_option maxRecDepth 100000
set_option maxHeartbeats 6400000
theorem bytes_law (d k s : Int) (L : List Ln) (a : Option Addr) (cap : Nat) (t : ByteArray) (w : World) (h : EnF w d k s L a cap) (ht : t.size ≤ maxLen) : Calls Try.prog 5 #[.agg #[.int .i64 d, .int .u8 k, .int .u64 s, .slice a L.length cap], .string t] w fun e w' => e = .returned (.bool true) ∧ Below w.heap.size w w' := by
  have KH := Lib.hid head_c
  have HB0 : Hid (Below w.heap.size w (w.alloc (.cells #[.int .i64 d, .int .u8 k, .int .u64 s, .slice a L.length cap] TEn))) := (Below.refl _ w).alloc (Nat.le_refl _) _
  have RE0 : Hid (Rw (w.alloc (.cells #[.int .i64 d, .int .u8 k, .int .u64 s, .slice a L.length cap] TEn)) w.heap.size TEn [.int .i64 d, .int .u8 k, .int .u64 s, .slice a L.length cap]) := Rw.new w [.int .i64 d, .int .u8 k, .int .u64 s, .slice a L.length cap] TEn
  have H := Lib.hid h.l.1
  have HER : Hid (EnR k s L) := ⟨h.k, h.s, fun x hx => (h.x x hx).1⟩
  have hl9 : (L.length : Int) ≤ 9223372036854775807 := by have := h.n; unfold maxLen at this; omega
  have ht9 : (t.size : Int) ≤ 9223372036854775807 := by unfold maxLen at ht; omega
  clear h ht
  go_enter Try.func5, Try.ntmps5
  go_upto_region 1 with (fail)
  obtain ⟨be, hbe⟩ : ∃ be, be = w.heap.size := ⟨_, rfl⟩
  rw [← hbe] at RE0 ⊢
  clear hbe
  generalize w.alloc (.cells #[.int .i64 d, .int .u8 k, .int .u64 s, .slice a L.length cap] TEn) = W2 at HB0 RE0 ⊢
  have e3 : W2.cell? ⟨be, 3, none⟩ = some (.slice a L.length cap) := RE0.out.cell 3
  by_cases hb1 : 100 < (L.length : Int)
  · go_wp2_with fail
    refine (KH.out _).mono ?_
    rintro _ w9 ⟨rfl, hb9⟩
    have HB9 : Hid (Below w.heap.size w w9) := HB0.out.trans (hb9.mono HB0.out.size)
    clear hb9
    go_wp2_with fail
    go_ret
    exact ⟨rfl, HB9.out⟩
  have HSM : Hid (L.length ≤ 100) := by show _ ≤ _; omega
  have hs1 : (L.length : Int) ≤ 100 := by omega
  clear hb1 hl9
  by_cases hb2 : 3000 < (t.size : Int)
  · go_wp2_with fail
    refine (KH.out _).mono ?_
    rintro _ w9 ⟨rfl, hb9⟩
    have HB9 : Hid (Below w.heap.size w w9) := HB0.out.trans (hb9.mono HB0.out.size)
    clear hb9
    go_wp2_with fail
    go_ret
    exact ⟨rfl, HB9.out⟩
  have HTM : Hid (t.size ≤ 3000) := by show _ ≤ _; omega
  have hs2 : (t.size : Int) ≤ 3000 := by omega
  clear hb2 ht9
  obtain ⟨D, K9, S9, R, z, hz, hRl, hget⟩ := get_form t.data.toList
  have HZ := Lib.hid hz
  have HRL := Lib.hid hRl
  have HTL : Hid (t.data.toList.length ≤ 1000000) := by have := HTM.out; show _ ≤ _; rw [Array.length_toList]; exact Nat.le_trans this (by omega)
  have KG1 : Hid (∀ u, Calls Try.prog 27 #[.string t] u (GetF D K9 S9 R z u)) := fun u => by
    have := get_c t.data.toList u HTL.out
    rw [bs_back] at this
    exact this.mono (hget u)
  have KG2 : Hid (∀ u, Calls Try.prog 28 #[.string t] u (GetF D K9 S9 R z u)) := fun u => by
    have := rget_c t.data.toList u HTL.out
    rw [bs_back] at this
    exact this.mono (hget u)
  clear hz hRl hget
  by_cases hc : chkM d k L = 0
  · have HEN : Hid (IsEn (enB d k s L) d k s L) := ⟨hc, HER.out, rfl⟩
    have KP1 : Hid (∀ u, Below w.heap.size w u → Calls Try.prog 25 #[.agg #[.int .i64 d, .int .u8 k, .int .u64 s, .slice a L.length cap]] u fun e w' => e = .returned (.tuple #[.string (bs (enB d k s L)), .int .i64 0]) ∧ Below u.heap.size u w') := fun u hu => by
      refine (put_c d k s L a cap u (H.out.later hu) (by have := HSM.out; omega) HER.out).mono ?_
      rintro e w' ⟨hb, ⟨h1, _⟩ | ⟨_, h2⟩⟩
      · exact absurd hc h1
      · exact ⟨h2, hb⟩
    have KP2 : Hid (∀ u, Below w.heap.size w u → Calls Try.prog 26 #[.agg #[.int .i64 d, .int .u8 k, .int .u64 s, .slice a L.length cap]] u fun e w' => e = .returned (.tuple #[.string (bs (enB d k s L)), .int .i64 0]) ∧ Below u.heap.size u w') := fun u hu => by
      refine (rputE_c d k s L a cap u (H.out.later hu) (by have := HSM.out; omega) HER.out).mono ?_
      rintro e w' ⟨hb, ⟨h1, _⟩ | ⟨_, h2⟩⟩
      · exact absurd hc h1
      · exact ⟨h2, hb⟩
    have KG3 : Hid (∀ u, Calls Try.prog 27 #[.string (bs (enB d k s L))] u (GetF d k s L 0 u)) := fun u => by
      refine (get_c (enB d k s L) u ?_).mono fun e w' hg => get_known HEN.out hg
      have g := HEN.out.rg
      have h1 := linesB_len (L := L) (fun x hx => (g.2.2.2.2 x hx).1) (fun x hx => (g.2.2.2.2 x hx).2)
      have z1 := (Ta.num_len d.toNat (by omega)).1
      have z2 := (Ta.num_len k.toNat (by omega)).1
      have z3 := (Ta.num_len s.toNat (by omega)).1
      have z4 := (Ta.num_len L.length (by omega)).1
      unfold enB headB
      simp only [List.length_append]
      omega
    generalize bs (enB d k s L) = sx at KP1 KP2 KG3
    obtain ⟨zf, hzf⟩ : ∃ zf : Int, zf = 0 := ⟨_, rfl⟩
    clear hc HEN hzf
    have e0 : W2.cell? ⟨be, 0, none⟩ = some (.int .i64 d) := RE0.out.cell 0
    have e1 : W2.cell? ⟨be, 1, none⟩ = some (.int .u8 k) := RE0.out.cell 1
    have e2 : W2.cell? ⟨be, 2, none⟩ = some (.int .u64 s) := RE0.out.cell 2
    go_wp2_with fail
    refine (KP1.out W2 HB0.out).mono ?_
    rintro _ W3 ⟨rfl, hb3⟩
    have HB3 : Hid (Below w.heap.size w W3) := HB0.out.trans (hb3.mono HB0.out.size)
    have RE3 := Lib.hid (RE0.out.later hb3)
    clear e0 e1 e2 e3 hb3 KP1 HB0 RE0
    have e0 : W3.cell? ⟨be, 0, none⟩ = some (.int .i64 d) := RE3.out.cell 0
    have e1 : W3.cell? ⟨be, 1, none⟩ = some (.int .u8 k) := RE3.out.cell 1
    have e2 : W3.cell? ⟨be, 2, none⟩ = some (.int .u64 s) := RE3.out.cell 2
    have e3 : W3.cell? ⟨be, 3, none⟩ = some (.slice a L.length cap) := RE3.out.cell 3
    go_wp2_with fail
    refine (KP2.out W3 HB3.out).mono ?_
    rintro _ W4 ⟨rfl, hb4⟩
    have HB4 : Hid (Below w.heap.size w W4) := HB3.out.trans (hb4.mono HB3.out.size)
    have RE4 := Lib.hid (RE3.out.later hb4)
    clear e0 e1 e2 e3 hb4 KP2 HB3 RE3
    go_wp2_with fail
    refine (KG1.out W4).mono ?_
    rintro _ W5 ⟨ra, rc, rfl, hr, hb⟩
    have HB5 : Hid (Below w.heap.size w W5) := HB4.out.trans (hb.mono HB4.out.size)
    have RE5 := Lib.hid (RE4.out.later hb)
    have Hra5 := Lib.hid hr
    clear hr hb KG1 HB4 RE4 
    go_upto_region 6 with (fail)
    have bz : Below W5.heap.size W5 (W5.alloc (.cells #[.int .i64 D, .int .u8 K9, .int .u64 S9, .slice ra R.length rc] TEn)) := (Below.refl _ _).alloc (Nat.le_refl _) _
    have Qra6 : Hid (Rw (W5.alloc (.cells #[.int .i64 D, .int .u8 K9, .int .u64 S9, .slice ra R.length rc] TEn)) W5.heap.size TEn [.int .i64 D, .int .u8 K9, .int .u64 S9, .slice ra R.length rc]) := Rw.new W5 [.int .i64 D, .int .u8 K9, .int .u64 S9, .slice ra R.length rc] TEn
    have HB6 : Hid (Below w.heap.size w (W5.alloc (.cells #[.int .i64 D, .int .u8 K9, .int .u64 S9, .slice ra R.length rc] TEn))) := HB5.out.trans (bz.mono HB5.out.size)
    have RE6 := Lib.hid (RE5.out.later bz)
    have Hra6 := Lib.hid (Hra5.out.later bz)
    obtain ⟨bra, hbr⟩ : ∃ br, br = W5.heap.size := ⟨_, rfl⟩
    rw [← hbr] at Qra6 ⊢
    generalize W5.alloc (.cells #[.int .i64 D, .int .u8 K9, .int .u64 S9, .slice ra R.length rc] TEn) = W5a at Qra6 HB6 RE6 Hra6  ⊢
    clear bz hbr HB5 RE5 Hra5 
    go_wp2_with fail
    refine (KG2.out W5a).mono ?_
    rintro _ W7 ⟨rb, rd, rfl, hr, hb⟩
    have HB7 : Hid (Below w.heap.size w W7) := HB6.out.trans (hb.mono HB6.out.size)
    have RE7 := Lib.hid (RE6.out.later hb)
    have Hrb7 := Lib.hid hr
    have Hra7 := Lib.hid (Hra6.out.later hb)
    have Qra7 := Lib.hid (Qra6.out.later hb)
    clear hr hb KG2 HB6 RE6 Hra6 Qra6
    go_upto_region 7 with (fail)
    have bz : Below W7.heap.size W7 (W7.alloc (.cells #[.int .i64 D, .int .u8 K9, .int .u64 S9, .slice rb R.length rd] TEn)) := (Below.refl _ _).alloc (Nat.le_refl _) _
    have Qrb8 : Hid (Rw (W7.alloc (.cells #[.int .i64 D, .int .u8 K9, .int .u64 S9, .slice rb R.length rd] TEn)) W7.heap.size TEn [.int .i64 D, .int .u8 K9, .int .u64 S9, .slice rb R.length rd]) := Rw.new W7 [.int .i64 D, .int .u8 K9, .int .u64 S9, .slice rb R.length rd] TEn
    have HB8 : Hid (Below w.heap.size w (W7.alloc (.cells #[.int .i64 D, .int .u8 K9, .int .u64 S9, .slice rb R.length rd] TEn))) := HB7.out.trans (bz.mono HB7.out.size)
    have RE8 := Lib.hid (RE7.out.later bz)
    have Hrb8 := Lib.hid (Hrb7.out.later bz)
    have Hra8 := Lib.hid (Hra7.out.later bz)
    have Qra8 := Lib.hid (Qra7.out.later bz)
    obtain ⟨brb, hbr⟩ : ∃ br, br = W7.heap.size := ⟨_, rfl⟩
    rw [← hbr] at Qrb8 ⊢
    generalize W7.alloc (.cells #[.int .i64 D, .int .u8 K9, .int .u64 S9, .slice rb R.length rd] TEn) = W7a at Qrb8 HB8 RE8 Hrb8 Hra8 Qra8 ⊢
    clear bz hbr HB7 RE7 Hrb7 Hra7 Qra7
    have p0 : W7a.cell? ⟨bra, 0, none⟩ = some (.int .i64 D) := Qra8.out.cell 0
    have p1 : W7a.cell? ⟨bra, 1, none⟩ = some (.int .u8 K9) := Qra8.out.cell 1
    have p2 : W7a.cell? ⟨bra, 2, none⟩ = some (.int .u64 S9) := Qra8.out.cell 2
    have p3 : W7a.cell? ⟨bra, 3, none⟩ = some (.slice ra R.length rc) := Qra8.out.cell 3
    have q0 : W7a.cell? ⟨brb, 0, none⟩ = some (.int .i64 D) := Qrb8.out.cell 0
    have q1 : W7a.cell? ⟨brb, 1, none⟩ = some (.int .u8 K9) := Qrb8.out.cell 1
    have q2 : W7a.cell? ⟨brb, 2, none⟩ = some (.int .u64 S9) := Qrb8.out.cell 2
    have q3 : W7a.cell? ⟨brb, 3, none⟩ = some (.slice rb R.length rd) := Qrb8.out.cell 3
    have KS0 : Hid (Calls Try.prog 21 #[.agg #[.int .i64 D, .int .u8 K9, .int .u64 S9, .slice ra R.length rc], .agg #[.int .i64 D, .int .u8 K9, .int .u64 S9, .slice rb R.length rd]] W7a fun e w' => e = .returned (.bool true) ∧ Below W7a.heap.size W7a w') := sameE_c D K9 S9 R ra rb rc rd W7a Hra8.out Hrb8.out (by have := HRL.out; omega)
    go_wp2_with fail
    refine KS0.out.mono ?_
    rintro _ V ⟨rfl, hbv⟩
    have HBV : Hid (Below w.heap.size w V) := HB8.out.trans (hbv.mono HB8.out.size)
    have REV := Lib.hid (RE8.out.later hbv)
    have RAV := Lib.hid (Qra8.out.later hbv)
    have HRV := Lib.hid (Hra8.out.later hbv)
    clear hbv KS0 HB8 RE8 Qra8 Qrb8 Hra8 Hrb8 p0 p1 p2 p3 q0 q1 q2 q3
    go_wp2_with fail
    refine (KG3.out V).mono ?_
    rintro _ Y1 ⟨ba, bc, rfl, hy, hby⟩
    have HBY : Hid (Below w.heap.size w Y1) := HBV.out.trans (hby.mono HBV.out.size)
    have REY := Lib.hid (REV.out.later hby)
    have RAY := Lib.hid (RAV.out.later hby)
    have HRY := Lib.hid (HRV.out.later hby)
    have HY := Lib.hid hy
    clear hy hby KG3 HBV REV RAV HRV
    go_upto_region 11 with (fail)
    have bz : Below Y1.heap.size Y1 (Y1.alloc (.cells #[.int .i64 d, .int .u8 k, .int .u64 s, .slice ba L.length bc] TEn)) := (Below.refl _ _).alloc (Nat.le_refl _) _
    have RB0 : Hid (Rw (Y1.alloc (.cells #[.int .i64 d, .int .u8 k, .int .u64 s, .slice ba L.length bc] TEn)) Y1.heap.size TEn [.int .i64 d, .int .u8 k, .int .u64 s, .slice ba L.length bc]) := Rw.new Y1 [.int .i64 d, .int .u8 k, .int .u64 s, .slice ba L.length bc] TEn
    have HBZ : Hid (Below w.heap.size w (Y1.alloc (.cells #[.int .i64 d, .int .u8 k, .int .u64 s, .slice ba L.length bc] TEn))) := HBY.out.trans (bz.mono HBY.out.size)
    have REZ := Lib.hid (REY.out.later bz)
    have RAZ := Lib.hid (RAY.out.later bz)
    have HRZ := Lib.hid (HRY.out.later bz)
    have HYZ := Lib.hid (HY.out.later bz)
    obtain ⟨bk, hbk⟩ : ∃ br, br = Y1.heap.size := ⟨_, rfl⟩
    rw [← hbk] at RB0 ⊢
    generalize Y1.alloc (.cells #[.int .i64 d, .int .u8 k, .int .u64 s, .slice ba L.length bc] TEn) = Y2 at RB0 HBZ REZ RAZ HRZ HYZ ⊢
    clear bz hbk HBY REY RAY HRY HY
    have e0 : Y2.cell? ⟨be, 0, none⟩ = some (.int .i64 d) := REZ.out.cell 0
    have e1 : Y2.cell? ⟨be, 1, none⟩ = some (.int .u8 k) := REZ.out.cell 1
    have e2 : Y2.cell? ⟨be, 2, none⟩ = some (.int .u64 s) := REZ.out.cell 2
    have e3 : Y2.cell? ⟨be, 3, none⟩ = some (.slice a L.length cap) := REZ.out.cell 3
    have p0 : Y2.cell? ⟨bk, 0, none⟩ = some (.int .i64 d) := RB0.out.cell 0
    have p1 : Y2.cell? ⟨bk, 1, none⟩ = some (.int .u8 k) := RB0.out.cell 1
    have p2 : Y2.cell? ⟨bk, 2, none⟩ = some (.int .u64 s) := RB0.out.cell 2
    have p3 : Y2.cell? ⟨bk, 3, none⟩ = some (.slice ba L.length bc) := RB0.out.cell 3
    have KS : Hid (Calls Try.prog 21 #[.agg #[.int .i64 d, .int .u8 k, .int .u64 s, .slice ba L.length bc], .agg #[.int .i64 d, .int .u8 k, .int .u64 s, .slice a L.length cap]] Y2 fun e w' => e = .returned (.bool true) ∧ Below Y2.heap.size Y2 w') := sameE_c d k s L ba a bc cap Y2 HYZ.out (H.out.later HBZ.out) (by have := HSM.out; omega)
    go_wp2_with fail
    refine KS.out.mono ?_
    rintro _ Y3 ⟨rfl, hb3⟩
    have HBV : Hid (Below w.heap.size w Y3) := HBZ.out.trans (hb3.mono HBZ.out.size)
    have RAV := Lib.hid (RAZ.out.later hb3)
    have HRV := Lib.hid (HRZ.out.later hb3)
    clear hb3 KS HBZ REZ RAZ HRZ HYZ e0 e1 e2 e3 p0 p1 p2 p3 RB0
    have HZZ := HZ.out
    rcases HZZ with ⟨hz, hE⟩ | hz
    · subst hz
      have HEE := Lib.hid hE
      clear hE HZ
      have p0 : Y3.cell? ⟨bra, 0, none⟩ = some (.int .i64 D) := RAV.out.cell 0
      have p1 : Y3.cell? ⟨bra, 1, none⟩ = some (.int .u8 K9) := RAV.out.cell 1
      have p2 : Y3.cell? ⟨bra, 2, none⟩ = some (.int .u64 S9) := RAV.out.cell 2
      have p3 : Y3.cell? ⟨bra, 3, none⟩ = some (.slice ra R.length rc) := RAV.out.cell 3
      have KQ : Hid (Calls Try.prog 25 #[.agg #[.int .i64 D, .int .u8 K9, .int .u64 S9, .slice ra R.length rc]] Y3 fun e w' => e = .returned (.tuple #[.string t, .int .i64 0]) ∧ Below Y3.heap.size Y3 w') := by
        refine (put_c D K9 S9 R ra rc Y3 HRV.out (by have := HRL.out; omega) HEE.out.r).mono ?_
        rintro e w' ⟨hb, ⟨h1, _⟩ | ⟨_, h2⟩⟩
        · exact absurd HEE.out.c h1
        · rw [HEE.out.b, bs_back] at h2; exact ⟨h2, hb⟩
      go_wp2_with fail
      refine KQ.out.mono ?_
      rintro _ U9 ⟨rfl, hbu⟩
      have HBU : Hid (Below w.heap.size w U9) := HBV.out.trans (hbu.mono HBV.out.size)
      clear hbu KQ p0 p1 p2 p3
      go_wp2_with fail
      refine (KH.out _).mono ?_
      rintro _ w9 ⟨rfl, hb9⟩
      have HB9 : Hid (Below w.heap.size w w9) := HBU.out.trans (hb9.mono HBU.out.size)
      clear hb9
      go_wp2_with fail
      go_ret
      exact ⟨rfl, HB9.out⟩
    · subst hz
      clear HZ
      go_wp2_with fail
      refine (KH.out _).mono ?_
      rintro _ w9 ⟨rfl, hb9⟩
      have HB9 : Hid (Below w.heap.size w w9) := HBV.out.trans (hb9.mono HBV.out.size)
      clear hb9
      go_wp2_with fail
      go_ret
      exact ⟨rfl, HB9.out⟩
  · obtain ⟨ch, hch⟩ : ∃ ch, ch = chkM d k L := ⟨_, rfl⟩
    have KP1 : Hid (∀ u, Below w.heap.size w u → Calls Try.prog 25 #[.agg #[.int .i64 d, .int .u8 k, .int .u64 s, .slice a L.length cap]] u fun e w' => e = .returned (.tuple #[.string ⟨#[]⟩, .int .i64 ch]) ∧ Below u.heap.size u w') := fun u hu => by
      refine (put_c d k s L a cap u (H.out.later hu) (by have := HSM.out; omega) HER.out).mono ?_
      rintro e w' ⟨hb, ⟨_, h2⟩ | ⟨h1, _⟩⟩
      · rw [hch]; exact ⟨h2, hb⟩
      · exact absurd h1 hc
    have KP2 : Hid (∀ u, Below w.heap.size w u → Calls Try.prog 26 #[.agg #[.int .i64 d, .int .u8 k, .int .u64 s, .slice a L.length cap]] u fun e w' => e = .returned (.tuple #[.string ⟨#[]⟩, .int .i64 ch]) ∧ Below u.heap.size u w') := fun u hu => by
      refine (rputE_c d k s L a cap u (H.out.later hu) (by have := HSM.out; omega) HER.out).mono ?_
      rintro e w' ⟨hb, ⟨_, h2⟩ | ⟨h1, _⟩⟩
      · rw [hch]; exact ⟨h2, hb⟩
      · exact absurd h1 hc
    generalize (⟨#[]⟩ : ByteArray) = sx at KP1 KP2
    rw [← hch] at hc
    have HNC := Lib.hid hc
    have n1 : (ch == 0) = false := beq_eq_false_iff_ne.2 hc
    have n2 : (ch != 0) = true := by simpa using hc
    clear hc hch
    have e0 : W2.cell? ⟨be, 0, none⟩ = some (.int .i64 d) := RE0.out.cell 0
    have e1 : W2.cell? ⟨be, 1, none⟩ = some (.int .u8 k) := RE0.out.cell 1
    have e2 : W2.cell? ⟨be, 2, none⟩ = some (.int .u64 s) := RE0.out.cell 2
    go_wp2_with fail
    refine (KP1.out W2 HB0.out).mono ?_
    rintro _ W3 ⟨rfl, hb3⟩
    have HB3 : Hid (Below w.heap.size w W3) := HB0.out.trans (hb3.mono HB0.out.size)
    have RE3 := Lib.hid (RE0.out.later hb3)
    clear e0 e1 e2 e3 hb3 KP1 HB0 RE0
    have e0 : W3.cell? ⟨be, 0, none⟩ = some (.int .i64 d) := RE3.out.cell 0
    have e1 : W3.cell? ⟨be, 1, none⟩ = some (.int .u8 k) := RE3.out.cell 1
    have e2 : W3.cell? ⟨be, 2, none⟩ = some (.int .u64 s) := RE3.out.cell 2
    have e3 : W3.cell? ⟨be, 3, none⟩ = some (.slice a L.length cap) := RE3.out.cell 3
    go_wp2_with fail
    refine (KP2.out W3 HB3.out).mono ?_
    rintro _ W4 ⟨rfl, hb4⟩
    have HB4 : Hid (Below w.heap.size w W4) := HB3.out.trans (hb4.mono HB3.out.size)
    have RE4 := Lib.hid (RE3.out.later hb4)
    clear e0 e1 e2 e3 hb4 KP2 HB3 RE3
    go_wp2_with fail
    refine (KG1.out W4).mono ?_
    rintro _ W5 ⟨ra, rc, rfl, hr, hb⟩
    have HB5 : Hid (Below w.heap.size w W5) := HB4.out.trans (hb.mono HB4.out.size)
    have RE5 := Lib.hid (RE4.out.later hb)
    have Hra5 := Lib.hid hr
    clear hr hb KG1 HB4 RE4 
    go_upto_region 6 with (fail)
    have bz : Below W5.heap.size W5 (W5.alloc (.cells #[.int .i64 D, .int .u8 K9, .int .u64 S9, .slice ra R.length rc] TEn)) := (Below.refl _ _).alloc (Nat.le_refl _) _
    have Qra6 : Hid (Rw (W5.alloc (.cells #[.int .i64 D, .int .u8 K9, .int .u64 S9, .slice ra R.length rc] TEn)) W5.heap.size TEn [.int .i64 D, .int .u8 K9, .int .u64 S9, .slice ra R.length rc]) := Rw.new W5 [.int .i64 D, .int .u8 K9, .int .u64 S9, .slice ra R.length rc] TEn
    have HB6 : Hid (Below w.heap.size w (W5.alloc (.cells #[.int .i64 D, .int .u8 K9, .int .u64 S9, .slice ra R.length rc] TEn))) := HB5.out.trans (bz.mono HB5.out.size)
    have RE6 := Lib.hid (RE5.out.later bz)
    have Hra6 := Lib.hid (Hra5.out.later bz)
    obtain ⟨bra, hbr⟩ : ∃ br, br = W5.heap.size := ⟨_, rfl⟩
    rw [← hbr] at Qra6 ⊢
    generalize W5.alloc (.cells #[.int .i64 D, .int .u8 K9, .int .u64 S9, .slice ra R.length rc] TEn) = W5a at Qra6 HB6 RE6 Hra6  ⊢
    clear bz hbr HB5 RE5 Hra5 
    go_wp2_with fail
    refine (KG2.out W5a).mono ?_
    rintro _ W7 ⟨rb, rd, rfl, hr, hb⟩
    have HB7 : Hid (Below w.heap.size w W7) := HB6.out.trans (hb.mono HB6.out.size)
    have RE7 := Lib.hid (RE6.out.later hb)
    have Hrb7 := Lib.hid hr
    have Hra7 := Lib.hid (Hra6.out.later hb)
    have Qra7 := Lib.hid (Qra6.out.later hb)
    clear hr hb KG2 HB6 RE6 Hra6 Qra6
    go_upto_region 7 with (fail)
    have bz : Below W7.heap.size W7 (W7.alloc (.cells #[.int .i64 D, .int .u8 K9, .int .u64 S9, .slice rb R.length rd] TEn)) := (Below.refl _ _).alloc (Nat.le_refl _) _
    have Qrb8 : Hid (Rw (W7.alloc (.cells #[.int .i64 D, .int .u8 K9, .int .u64 S9, .slice rb R.length rd] TEn)) W7.heap.size TEn [.int .i64 D, .int .u8 K9, .int .u64 S9, .slice rb R.length rd]) := Rw.new W7 [.int .i64 D, .int .u8 K9, .int .u64 S9, .slice rb R.length rd] TEn
    have HB8 : Hid (Below w.heap.size w (W7.alloc (.cells #[.int .i64 D, .int .u8 K9, .int .u64 S9, .slice rb R.length rd] TEn))) := HB7.out.trans (bz.mono HB7.out.size)
    have RE8 := Lib.hid (RE7.out.later bz)
    have Hrb8 := Lib.hid (Hrb7.out.later bz)
    have Hra8 := Lib.hid (Hra7.out.later bz)
    have Qra8 := Lib.hid (Qra7.out.later bz)
    obtain ⟨brb, hbr⟩ : ∃ br, br = W7.heap.size := ⟨_, rfl⟩
    rw [← hbr] at Qrb8 ⊢
    generalize W7.alloc (.cells #[.int .i64 D, .int .u8 K9, .int .u64 S9, .slice rb R.length rd] TEn) = W7a at Qrb8 HB8 RE8 Hrb8 Hra8 Qra8 ⊢
    clear bz hbr HB7 RE7 Hrb7 Hra7 Qra7
    have p0 : W7a.cell? ⟨bra, 0, none⟩ = some (.int .i64 D) := Qra8.out.cell 0
    have p1 : W7a.cell? ⟨bra, 1, none⟩ = some (.int .u8 K9) := Qra8.out.cell 1
    have p2 : W7a.cell? ⟨bra, 2, none⟩ = some (.int .u64 S9) := Qra8.out.cell 2
    have p3 : W7a.cell? ⟨bra, 3, none⟩ = some (.slice ra R.length rc) := Qra8.out.cell 3
    have q0 : W7a.cell? ⟨brb, 0, none⟩ = some (.int .i64 D) := Qrb8.out.cell 0
    have q1 : W7a.cell? ⟨brb, 1, none⟩ = some (.int .u8 K9) := Qrb8.out.cell 1
    have q2 : W7a.cell? ⟨brb, 2, none⟩ = some (.int .u64 S9) := Qrb8.out.cell 2
    have q3 : W7a.cell? ⟨brb, 3, none⟩ = some (.slice rb R.length rd) := Qrb8.out.cell 3
    have KS0 : Hid (Calls Try.prog 21 #[.agg #[.int .i64 D, .int .u8 K9, .int .u64 S9, .slice ra R.length rc], .agg #[.int .i64 D, .int .u8 K9, .int .u64 S9, .slice rb R.length rd]] W7a fun e w' => e = .returned (.bool true) ∧ Below W7a.heap.size W7a w') := sameE_c D K9 S9 R ra rb rc rd W7a Hra8.out Hrb8.out (by have := HRL.out; omega)
    go_wp2_with fail
    refine KS0.out.mono ?_
    rintro _ V ⟨rfl, hbv⟩
    have HBV : Hid (Below w.heap.size w V) := HB8.out.trans (hbv.mono HB8.out.size)
    have REV := Lib.hid (RE8.out.later hbv)
    have RAV := Lib.hid (Qra8.out.later hbv)
    have HRV := Lib.hid (Hra8.out.later hbv)
    clear hbv KS0 HB8 RE8 Qra8 Qrb8 Hra8 Hrb8 p0 p1 p2 p3 q0 q1 q2 q3
    have HZZ := HZ.out
    rcases HZZ with ⟨hz, hE⟩ | hz
    · subst hz
      have HEE := Lib.hid hE
      clear hE HZ
      have p0 : V.cell? ⟨bra, 0, none⟩ = some (.int .i64 D) := RAV.out.cell 0
      have p1 : V.cell? ⟨bra, 1, none⟩ = some (.int .u8 K9) := RAV.out.cell 1
      have p2 : V.cell? ⟨bra, 2, none⟩ = some (.int .u64 S9) := RAV.out.cell 2
      have p3 : V.cell? ⟨bra, 3, none⟩ = some (.slice ra R.length rc) := RAV.out.cell 3
      have KQ : Hid (Calls Try.prog 25 #[.agg #[.int .i64 D, .int .u8 K9, .int .u64 S9, .slice ra R.length rc]] V fun e w' => e = .returned (.tuple #[.string t, .int .i64 0]) ∧ Below V.heap.size V w') := by
        refine (put_c D K9 S9 R ra rc V HRV.out (by have := HRL.out; omega) HEE.out.r).mono ?_
        rintro e w' ⟨hb, ⟨h1, _⟩ | ⟨_, h2⟩⟩
        · exact absurd HEE.out.c h1
        · rw [HEE.out.b, bs_back] at h2; exact ⟨h2, hb⟩
      go_wp2_with fail
      refine KQ.out.mono ?_
      rintro _ U9 ⟨rfl, hbu⟩
      have HBU : Hid (Below w.heap.size w U9) := HBV.out.trans (hbu.mono HBV.out.size)
      clear hbu KQ p0 p1 p2 p3
      go_wp2_with fail
      refine (KH.out _).mono ?_
      rintro _ w9 ⟨rfl, hb9⟩
      have HB9 : Hid (Below w.heap.size w w9) := HBU.out.trans (hb9.mono HBU.out.size)
      clear hb9
      go_wp2_with fail
      go_ret
      exact ⟨rfl, HB9.out⟩
    · subst hz
      clear HZ
      go_wp2_with fail
      refine (KH.out _).mono ?_
      rintro _ w9 ⟨rfl, hb9⟩
      have HB9 : Hid (Below w.heap.size w w9) := HBV.out.trans (hb9.mono HBV.out.size)
      clear hb9
      go_wp2_with fail
      go_ret
      exact ⟨rfl, HB9.out⟩
end
end Go.Proofs.Ytnblilonjpfdnaa.Jn
