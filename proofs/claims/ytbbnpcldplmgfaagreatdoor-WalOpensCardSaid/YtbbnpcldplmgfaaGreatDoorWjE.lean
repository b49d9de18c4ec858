/- Joined: WlLaw0 WlSame. -/
import Derived.Test.YtbbnpcldplmgfaaGreatDoorWlOpen
import Derived.Deep.AppendLies
section
namespace Go.Proofs.YtbbnpcldplmgfaaGreatDoor.Wl
open Go Go.RowKit Dv Rf Shf Rk
open Tal (Strs bas)
/-- The lists of a slice of acts. -/
def Ls6 (w : World) (a : Option Addr) (LL : List (List Rk.Sec)) : Prop := ∀ j (h : j < LL.length), ∃ b off s cap, a = some ⟨b, off, none⟩ ∧ b < w.heap.size ∧ w.cell? ⟨b, off + j * 6 + 1, none⟩ = some (.slice s (LL[j]'h).length cap) ∧ Strs w s (bas (LL[j]'h))
theorem Ls6.later {w w' : World} {a : Option Addr} {LL : List (List Rk.Sec)} (h : Ls6 w a LL) (k : Below w.heap.size w w') : Ls6 w' a LL := fun j hj => by
  obtain ⟨b, off, s, cap, h1, h2, h3, h4⟩ := h j hj
  exact ⟨b, off, s, cap, h1, Nat.lt_of_lt_of_le h2 k.size, (k.cell (p := ⟨b, off + j * 6 + 1, none⟩) h2).trans h3, h4.later k⟩
def GrRes (LL : List (List Rk.Sec)) (w : World) (e : Ending) (w' : World) : Prop := ∃ z, e = .returned (.bool z) ∧ w = w' ∧ (z = false → LL.length ≤ 40 ∧ ∀ l ∈ LL, Small l)
set_option maxRecDepth 100000 in
set_option maxHeartbeats 3200000 in
theorem great_c (LL : List (List Rk.Sec)) (a : Option Addr) (cap : Nat) (w : World) (hA : Ls6 w a LL) (hl : LL.length ≤ 9223372036854775807) (hz : ∀ l ∈ LL, l.length ≤ 9223372036854775807 ∧ ∀ p ∈ l, p.length ≤ 9223372036854775807) :
    Calls Tryz.prog 7 #[.slice a LL.length cap] w (GrRes LL w) := by
  have HA := Lib.hid hA
  have HZ := Lib.hid hz
  clear hA hz
  by_cases hn : 40 < LL.length
  · have hn' : (40 : Int) < (LL.length : Int) := by omega
    clear hn
    go_enter Tryz.func7, Tryz.ntmps7
    go_wp2_with fail
    go_ret
    exact ⟨true, rfl, rfl, fun h => by cases h⟩
  · have hn' : ¬ (40 : Int) < (LL.length : Int) := by omega
    have h40 : LL.length ≤ 40 := by omega
    clear hn hl
    go_enter Tryz.func7, Tryz.ntmps7
    go_wp2_with fail
    clear hn'
    go_loopg [3] LL.length (fun kx s3 wr => ∃ i : Nat, s3 = .int .i64 (i : Int) ∧ i ≤ LL.length ∧ Hid (w = wr) ∧ Hid (∀ j (h : j < LL.length), j < i → Small LL[j]) ∧ LL.length ≤ i + kx)
    case atStart => exact ⟨0, rfl, Nat.zero_le _, rfl, fun j h h0 => absurd h0 (Nat.not_lt_zero _), by omega⟩
    case round =>
      obtain ⟨i, rfl, hi, HW, HS, hkx⟩ := hrel
      obtain rfl := HW.out
      by_cases hlt : i < LL.length
      · obtain ⟨b, off, s, cp, rfl, hb, hc, hst⟩ := HA.out i hlt
        have hzz := HZ.out _ (List.getElem_mem hlt)
        obtain ⟨l, hle⟩ : ∃ l, l = LL[i] := ⟨_, rfl⟩
        rw [← hle] at hc hst hzz
        have HST := Lib.hid hst
        have HZZ := Lib.hid hzz.2
        have hz9 := hzz.1
        have j0 : (0 : Int) ≤ (i : Int) := by omega
        have j1 : (i : Int) < (LL.length : Int) := by omega
        have HLE := Lib.hid hle
        clear hst hzz hle hb
        by_cases h10 : 10 < l.length
        · have h10' : (10 : Int) < (l.length : Int) := by omega
          clear h10 hkx
          go_wp2_with fail
          go_ret
          exact ⟨true, rfl, rfl, fun h => by cases h⟩
        · have h10' : ¬ (10 : Int) < (l.length : Int) := by omega
          have h11 : l.length ≤ 10 := by omega
          clear h10 hz9
          go_wp2_with fail
          clear h10'
          go_loopg [4] l.length (fun ky s4 wr => ∃ k : Nat, s4 = .int .i64 (k : Int) ∧ k ≤ l.length ∧ Hid (w = wr) ∧ Hid (∀ j (h : j < l.length), j < k → l[j].length ≤ 400) ∧ l.length ≤ k + ky)
          case atStart => exact ⟨0, rfl, Nat.zero_le _, rfl, fun j h h0 => absurd h0 (Nat.not_lt_zero _), by omega⟩
          case round =>
            obtain ⟨k, rfl, hk, HW2, HK, hky⟩ := hrel
            obtain rfl := HW2.out
            by_cases hlk : k < l.length
            · obtain ⟨b2, off2, rfl, hb2, hc2⟩ := HST.out k (by rw [bas_len]; exact hlk)
              have e1 : (bas l)[k]'(by rw [bas_len]; exact hlk) = ⟨(l[k]'hlk).toArray⟩ := by simp [bas]
              rw [e1] at hc2
              have hz2 := HZZ.out _ (List.getElem_mem hlk)
              obtain ⟨t, hte⟩ : ∃ t, t = (⟨(l[k]'hlk).toArray⟩ : ByteArray) := ⟨_, rfl⟩
              have htl : t.size = (l[k]'hlk).length := by rw [hte]; rfl
              rw [← hte] at hc2
              rw [← htl] at hz2
              have HTL := Lib.hid htl
              have k0 : (0 : Int) ≤ (k : Int) := by omega
              have k1 : (k : Int) < (l.length : Int) := by omega
              clear e1 hte htl hb2
              by_cases h400 : 400 < t.size
              · have h4' : (400 : Int) < (t.size : Int) := by omega
                clear h400 hky hkx hz2
                go_wp2_with fail
                go_ret
                exact ⟨true, rfl, rfl, fun h => by cases h⟩
              · have h4' : ¬ (400 : Int) < (t.size : Int) := by omega
                have HK2 : Hid (∀ j (h : j < l.length), j < k + 1 → l[j].length ≤ 400) := fun j h hj => by
                  by_cases e : j < k
                  · exact HK.out j h e
                  · obtain rfl : j = k := by omega
                    rw [← HTL.out]; omega
                clear h400 hz2
                go_wp2_with fail
                go_roundg (l.length - (k + 1))
                case measure => omega
                case rel => exact ⟨k + 1, by simp, by omega, rfl, HK2, by omega⟩
            · have HS2 : Hid (∀ j (h : j < LL.length), j < i + 1 → Small LL[j]) := fun j h hj => by
                by_cases e : j < i
                · exact HS.out j h e
                · obtain rfl : j = i := by omega
                  rw [← HLE.out]
                  refine ⟨h11, fun p hp => ?_⟩
                  obtain ⟨q, hq, rfl⟩ := List.getElem_of_mem hp
                  exact HK.out q hq (by omega)
              clear hky
              go_wp2_with fail
              go_roundg (LL.length - (i + 1))
              case measure => omega
              case rel => exact ⟨i + 1, by simp, by omega, rfl, HS2, by omega⟩
      · have HF : Hid (∀ l ∈ LL, Small l) := fun l hl => by
          obtain ⟨q, hq, rfl⟩ := List.getElem_of_mem hl
          exact HS.out q hq (by omega)
        clear hkx
        go_wp2_with fail
        go_ret
        exact ⟨false, rfl, rfl, fun _ => ⟨h40, HF.out⟩⟩
end Go.Proofs.YtbbnpcldplmgfaaGreatDoor.Wl
end
section
namespace Go.Proofs.YtbbnpcldplmgfaaGreatDoor.Wl
open Go Go.RowKit Dv Rf Shf Rk
open Tal (Strs bas)
theorem one_sv {A : List Rk.Sec} {y : Value} (h : y ∈ A.map sv) : y.oneCell' = true := by
  obtain ⟨x, _, rfl⟩ := List.mem_map.1 h
  rfl
/-- Where both rows stand that are put together, in any order. -/
structure Ap (w : World) (A C : List Rk.Sec) (l0 l3 l6 l7 : Bool) (v0 v3 v6 : Value) (u : World) : Prop where
  b : Below w.heap.size w u
  r0 : l0 = true → l3 = false → u.ownsRow w.heap.size TStr 1 v0 0 []
  r3 : l3 = true → l6 = false → u.ownsRow w.heap.size TStr 1 v3 A.length (A.map sv)
  r6 : l6 = true → Ow w.heap.size u v6 (A ++ C)
  m3 : l3 = true → l0 = true
  m6 : l6 = true → l3 = true
  m7 : l7 = true → l6 = true
section
variable {w u u' : World} {A C : List Rk.Sec} {l0 l3 l6 l7 : Bool} {v0 v3 v6 : Value}
theorem Ap.start (k : Below w.heap.size w u) : Ap w A C false false false false v0 v3 v6 u := ⟨k, fun h => (by cases h), fun h => (by cases h), fun h => (by cases h), fun h => (by cases h), fun h => (by cases h), fun h => (by cases h)⟩
theorem Ap.zero (h : Ap w A C l0 l3 l6 l7 v0 v3 v6 u) (hi : l0 = false) : Ap w A C true l3 l6 l7 (.slice (some ⟨u.heap.size, 0, none⟩) 0 0) v3 v6 (u.alloc (.cells #[] TStr)) := by
  have e3 : l3 = false := by cases l3; rfl; have := h.m3 rfl; rw [hi] at this; cases this
  have e6 : l6 = false := by cases l6; rfl; have := h.m6 rfl; rw [e3] at this; cases this
  subst e3 e6
  exact ⟨h.b.alloc h.b.size _, fun _ _ => own_zero _ _ _ _ h.b.size, fun h => (by cases h), fun h => (by cases h), fun h => (by cases h), fun h => (by cases h), h.m7⟩
theorem Ap.first (h : Ap w A C l0 l3 l6 l7 v0 v3 v6 u) (hi : l3 = false) {v : Value} {n : Nat} (hown : u'.ownsRow w.heap.size TStr 1 v (0 + n) ([] ++ A.map sv)) (hg : u.grownBy u' v0.ownBlock) (h0 : u.ownsRow w.heap.size TStr 1 v0 0 []) (hl0 : l0 = true := by assumption) (hn : n = A.length := by first | exact HNA.out.symm | assumption) : Ap w A C l0 true l6 l7 v0 v v6 u' := by
  have e6 : l6 = false := by cases l6; rfl; have := h.m6 rfl; rw [hi] at this; cases this
  subst e6 hn
  rw [Nat.zero_add, List.nil_append] at hown
  exact ⟨h.b.grown hg h.b.size fun j hj => (h0.lt j hj).1, fun _ h => (by cases h), fun _ _ => hown, fun h => (by cases h), fun _ => hl0, fun h => (by cases h), h.m7⟩
theorem Ap.second (h : Ap w A C l0 l3 l6 l7 v0 v3 v6 u) (hi : l6 = false) {v : Value} {n : Nat} (hown : u'.ownsRow w.heap.size TStr 1 v (A.length + n) (A.map sv ++ C.map sv)) (hg : u.grownBy u' v3.ownBlock) (h3 : u.ownsRow w.heap.size TStr 1 v3 A.length (A.map sv)) (hl3 : l3 = true := by assumption) (hn : n = C.length := by first | exact HNC.out.symm | assumption) : Ap w A C l0 l3 true l7 v0 v3 v u' := by
  have e7 : l7 = false := by cases l7; rfl; have := h.m7 rfl; rw [hi] at this; cases this
  subst e7 hn hl3
  refine ⟨h.b.grown hg h.b.size fun j hj => (h3.lt j hj).1, fun _ h => (by cases h), fun _ h => (by cases h), fun _ => ?_, h.m3, fun _ => rfl, fun h => (by cases h)⟩
  unfold Ow
  rw [List.length_append, List.map_append]
  exact hown
theorem Ap.last (h : Ap w A C l0 l3 l6 l7 v0 v3 v6 u) (hl : l6 = true) : Ap w A C l0 l3 l6 true v0 v3 v6 u := ⟨h.b, h.r0, h.r3, h.r6, h.m3, h.m6, fun _ => hl⟩
end
theorem own_some {base : Nat} {w : World} {v : Value} {L : List Rk.Sec} {n : Nat} (h : Ow base w v L) (e : L.length = n) (hn : 0 < n) : ∃ g c, v = .slice (some ⟨g, 0, none⟩) n c ∧ g < w.heap.size ∧ ∀ j y, (L.map sv)[j]? = some y → w.cell? ⟨g, j, none⟩ = some y := by
  subst e
  rcases id h.2 with ⟨rfl, h0⟩ | ⟨g, cap, cur, rfl, _⟩
  · have : L = [] := by simpa using h0
    subst this
    simp at hn
  · exact ⟨g, cap, rfl, Rf.own_cell h⟩
set_option maxRecDepth 100000 in
set_option maxHeartbeats 3200000 in
theorem same_l {base : Nat} {w : World} {vA vB : Value} {A C : List Rk.Sec} {n g : Nat} {U : Nat → Prop} {x : Dr} (h : Lg base w vA vB A C) (hA : A.length = n) (hC : C.length = n) (hn0 : 0 < n) (hn9 : n ≤ 1000) (hos : Dv.Os U w g x) (hx : x.Ok) (hD : n + n ≤ x.D.length) (hV : ∀ j, j < n + n → x.V[j]? = (A ++ C)[j]?) :
    Calls Tryz.prog 24 #[.pointer (some ⟨g, 0, none⟩), .agg #[vA, vB]] w fun e w' => e = .returned (.bool true) ∧ Below w.heap.size w w' := by
  obtain ⟨i0, hi0, hz0, hz1, hz2⟩ := info_parts Rk.infoStr
  obtain ⟨gA, cA, rfl, hgA, hcA⟩ := own_some h.a hA hn0
  obtain ⟨gB, cB, rfl, hgB, hcB⟩ := own_some h.b hC hn0
  have HNA := Lib.hid hA
  have HNC := Lib.hid hC
  have HOS := Lib.hid hos
  have KR : Hid (∀ u : World, Below w.heap.size w u → ∀ j, j < n + n → Calls Tryz.prog 26 #[.pointer (some ⟨g, 0, none⟩), .int .i64 (j : Int)] u fun e w' => e = .returned (.tuple #[.string ⟨((A ++ C).getD j []).toArray⟩, .int .i64 0]) ∧ Below u.heap.size u w') := fun u hu j hj => by
    refine (os_read (HOS.out.later hu) hx _).mono fun e w' hr => ?_
    unfold RdRes Dr.read at hr
    rw [if_neg (by omega), Int.toNat_natCast] at hr
    have e1 : (A ++ C).getD j [] = x.V.getD j [] := by rw [List.getD_eq_getElem?_getD, List.getD_eq_getElem?_getD, hV j hj]
    rw [e1]
    exact hr
  have hb1 : Hid (Below w.heap.size w (w.alloc (.cells #[.slice (some ⟨gA, 0, none⟩) n cA, .slice (some ⟨gB, 0, none⟩) n cB] TLg))) := (Below.refl _ w).alloc (Nat.le_refl _) _
  have HR1 : Hid (Rw (w.alloc (.cells #[.slice (some ⟨gA, 0, none⟩) n cA, .slice (some ⟨gB, 0, none⟩) n cB] TLg)) w.heap.size TLg [.slice (some ⟨gA, 0, none⟩) n cA, .slice (some ⟨gB, 0, none⟩) n cB]) := Rw.new w [.slice (some ⟨gA, 0, none⟩) n cA, .slice (some ⟨gB, 0, none⟩) n cB] TLg
  have HGA := Lib.hid hgA
  have HGB := Lib.hid hgB
  have HCA0 := Lib.hid hcA
  have HCB0 := Lib.hid hcB
  obtain ⟨F, hF⟩ : ∃ F, F = A ++ C := ⟨_, rfl⟩
  have hFl : F.length = n + n := by rw [hF, List.length_append, hA, hC]
  have HF := Lib.hid hF
  have HFL := Lib.hid hFl
  rw [← hF] at KR
  clear h hA hC hos hx hD hV hgA hgB hcA hcB hF hFl
  go_enter Tryz.func24, Tryz.ntmps24
  go_wp2_with fail
  generalize w.alloc (.cells #[.slice (some ⟨gA, 0, none⟩) n cA, .slice (some ⟨gB, 0, none⟩) n cB] TLg) = w1 at *
  have HQ0 : Hid (∀ u, Below w1.heap.size w1 u → u.cell? ⟨w.heap.size, 0, none⟩ = some (.slice (some ⟨gA, 0, none⟩) n cA)) := fun u hu => (HR1.out.later hu).cell 0
  have HQ1 : Hid (∀ u, Below w1.heap.size w1 u → u.cell? ⟨w.heap.size, 1, none⟩ = some (.slice (some ⟨gB, 0, none⟩) n cB)) := fun u hu => (HR1.out.later hu).cell 1
  have HCA : Hid (∀ u, Below w1.heap.size w1 u → ∀ j y, (A.map sv)[j]? = some y → u.cell? ((⟨gA, 0, none⟩ : Addr).add j) = some y) := fun u hu j y hy => by
    rw [Go.WideShapes.add_plain, Nat.zero_add]
    exact (((hb1.out.trans (hu.mono hb1.out.size))).cell (p := ⟨gA, j, none⟩) HGA.out).trans (HCA0.out j y hy)
  have HCB : Hid (∀ u, Below w1.heap.size w1 u → ∀ j y, (C.map sv)[j]? = some y → u.cell? ((⟨gB, 0, none⟩ : Addr).add j) = some y) := fun u hu j y hy => by
    rw [Go.WideShapes.add_plain, Nat.zero_add]
    exact (((hb1.out.trans (hu.mono hb1.out.size))).cell (p := ⟨gB, j, none⟩) HGB.out).trans (HCB0.out j y hy)
  have HD1 : Hid (Below w1.heap.size w1 w1.drew) := (Below.refl _ _).drew
  refine wp_region_inv (I := (fun A0 L a u => ∃ (v0 : Value) (v3 : Value) (v6 : Value) (x0 x1 x2 x3 x4 x5 x6 x7 : Value), a = putAll A0 [(9, x0), (10, x1), (11, x2), (12, x3), (13, x4), (14, x5), (15, x6), (5, x7)] ∧ (L 0 = true → x0 = v0) ∧ (L 1 = true → x1 = (.pointer (some ⟨w.heap.size, 0, Option.none⟩))) ∧ (L 2 = true → x2 = (.slice (some ⟨gA, 0, none⟩) n cA)) ∧ (L 3 = true → x3 = v3) ∧ (L 4 = true → x4 = (.pointer (some ⟨w.heap.size, 1, Option.none⟩))) ∧ (L 5 = true → x5 = (.slice (some ⟨gB, 0, none⟩) n cB)) ∧ (L 6 = true → x6 = v6) ∧ (L 7 = true → x7 = v6) ∧ Ap w1 A C (L 0) (L 3) (L 6) (L 7) v0 v3 v6 u)) (by kernel_rfl) (by kernel_rfl) ?_ ?_ ?_
  · intro L hL
    exact ⟨undef, undef, undef, _, _, _, _, _, _, _, _, by (simp only [putAll, Act.put, List.setIfInBounds_toArray, List.set_cons_zero, List.set_cons_succ]; rfl), (fun h => absurd h (by rw [hL 0 (by decide)]; decide)), (fun h => absurd h (by rw [hL 1 (by decide)]; decide)), (fun h => absurd h (by rw [hL 2 (by decide)]; decide)), (fun h => absurd h (by rw [hL 3 (by decide)]; decide)), (fun h => absurd h (by rw [hL 4 (by decide)]; decide)), (fun h => absurd h (by rw [hL 5 (by decide)]; decide)), (fun h => absurd h (by rw [hL 6 (by decide)]; decide)), (fun h => absurd h (by rw [hL 7 (by decide)]; decide)), by rw [hL 0 (by decide), hL 3 (by decide), hL 6 (by decide), hL 7 (by decide)]; exact Ap.start HD1.out⟩
  refine Steps.cons (i := 0) rfl ?_ ?_
  · rintro L a u ⟨v0, v3, v6, x0, x1, x2, x3, x4, x5, x6, x7, rfl, h0, h1, h2, h3, h4, h5, h6, h7, hm⟩ hi hd K hK
    simp only [putAll, Act.put, List.setIfInBounds_toArray, List.set_cons_zero, List.set_cons_succ]
    (try simp [Region.binds] at hd)
    replace h0 := Lib.hid h0
    replace h1 := Lib.hid h1
    replace h2 := Lib.hid h2
    replace h3 := Lib.hid h3
    replace h4 := Lib.hid h4
    replace h5 := Lib.hid h5
    replace h6 := Lib.hid h6
    replace h7 := Lib.hid h7
    go_simp
    exact hK.out _ _ ⟨_, v3, v6, _, _, _, _, _, _, _, _, by ((simp only [putAll, Act.put, List.setIfInBounds_toArray, List.set_cons_zero, List.set_cons_succ]) <;> rfl), (fun _ => rfl), h1.out, h2.out, h3.out, h4.out, h5.out, h6.out, h7.out, (hm.zero hi)⟩
  refine Steps.cons (i := 1) rfl ?_ ?_
  · rintro L a u ⟨v0, v3, v6, x0, x1, x2, x3, x4, x5, x6, x7, rfl, h0, h1, h2, h3, h4, h5, h6, h7, hm⟩ hi hd K hK
    simp only [putAll, Act.put, List.setIfInBounds_toArray, List.set_cons_zero, List.set_cons_succ]
    (try simp [Region.binds] at hd)
    replace h0 := Lib.hid h0
    replace h1 := Lib.hid h1
    replace h2 := Lib.hid h2
    replace h3 := Lib.hid h3
    replace h4 := Lib.hid h4
    replace h5 := Lib.hid h5
    replace h6 := Lib.hid h6
    replace h7 := Lib.hid h7
    go_simp
    exact hK.out _ _ ⟨v0, v3, v6, _, _, _, _, _, _, _, _, by ((simp only [putAll, Act.put, List.setIfInBounds_toArray, List.set_cons_zero, List.set_cons_succ]) <;> rfl), h0.out, (fun _ => rfl), h2.out, h3.out, h4.out, h5.out, h6.out, h7.out, hm⟩
  refine Steps.cons (i := 2) rfl ?_ ?_
  · rintro L a u ⟨v0, v3, v6, x0, x1, x2, x3, x4, x5, x6, x7, rfl, h0, h1, h2, h3, h4, h5, h6, h7, hm⟩ hi hd K hK
    simp only [putAll, Act.put, List.setIfInBounds_toArray, List.set_cons_zero, List.set_cons_succ]
    (try simp [Region.binds] at hd)
    replace h0 := Lib.hid h0
    replace h1 := Lib.hid h1
    replace h2 := Lib.hid h2
    replace h3 := Lib.hid h3
    replace h4 := Lib.hid h4
    replace h5 := Lib.hid h5
    replace h6 := Lib.hid h6
    replace h7 := Lib.hid h7
    obtain rfl := (h1.out (by simp [hd])).symm
    have c0 := HQ0.out u hm.b
    go_simp
    exact hK.out _ _ ⟨v0, v3, v6, _, _, _, _, _, _, _, _, by ((simp only [putAll, Act.put, List.setIfInBounds_toArray, List.set_cons_zero, List.set_cons_succ]) <;> rfl), h0.out, h1.out, (fun _ => rfl), h3.out, h4.out, h5.out, h6.out, h7.out, hm⟩
  refine Steps.cons (i := 3) rfl ?_ ?_
  · rintro L a u ⟨v0, v3, v6, x0, x1, x2, x3, x4, x5, x6, x7, rfl, h0, h1, h2, h3, h4, h5, h6, h7, hm⟩ hi hd K hK
    simp only [putAll, Act.put, List.setIfInBounds_toArray, List.set_cons_zero, List.set_cons_succ]
    (try simp [Region.binds] at hd)
    replace h0 := Lib.hid h0
    replace h1 := Lib.hid h1
    replace h2 := Lib.hid h2
    replace h3 := Lib.hid h3
    replace h4 := Lib.hid h4
    replace h5 := Lib.hid h5
    replace h6 := Lib.hid h6
    replace h7 := Lib.hid h7
    obtain rfl := (h0.out (by simp [hd])).symm
    obtain rfl := (h2.out (by simp [hd])).symm
    have hl0 : L 0 = true := by simp [hd]
    have hown := hm.r0 hl0 hi
    rw [if_pos (by rfl)]
    refine wp_append_lies _ (.tmp 9) (.tmp 11) 32 rfl w1.heap.size TStr i0 (.string ⟨#[]⟩) 1 16 Tryz.underlying32 hi0 hz0 hz1 hz2 rfl (by decide) v0 0 [] (by rfl) hown ⟨gA, 0, none⟩ n cA (A.map sv) (by rfl) (by simp [HNA.out]) (fun j y hy => HCA.out u hm.b j y hy) (fun y hy => one_sv hy) hn0 (by unfold maxLen; omega) (by omega) hm.b.size _ rfl ?_
    intro g2 cap2 w2 hown2 hgrow hat hg2
    exact hK.out _ _ ⟨v0, _, v6, _, _, _, _, _, _, _, _, by ((simp only [putAll, Act.put, List.setIfInBounds_toArray, List.set_cons_zero, List.set_cons_succ]) <;> rfl), h0.out, h1.out, h2.out, (fun _ => rfl), h4.out, h5.out, h6.out, h7.out, (hm.first hi hown2 hgrow hown)⟩
  refine Steps.cons (i := 4) rfl ?_ ?_
  · rintro L a u ⟨v0, v3, v6, x0, x1, x2, x3, x4, x5, x6, x7, rfl, h0, h1, h2, h3, h4, h5, h6, h7, hm⟩ hi hd K hK
    simp only [putAll, Act.put, List.setIfInBounds_toArray, List.set_cons_zero, List.set_cons_succ]
    (try simp [Region.binds] at hd)
    replace h0 := Lib.hid h0
    replace h1 := Lib.hid h1
    replace h2 := Lib.hid h2
    replace h3 := Lib.hid h3
    replace h4 := Lib.hid h4
    replace h5 := Lib.hid h5
    replace h6 := Lib.hid h6
    replace h7 := Lib.hid h7
    go_simp
    exact hK.out _ _ ⟨v0, v3, v6, _, _, _, _, _, _, _, _, by ((simp only [putAll, Act.put, List.setIfInBounds_toArray, List.set_cons_zero, List.set_cons_succ]) <;> rfl), h0.out, h1.out, h2.out, h3.out, (fun _ => rfl), h5.out, h6.out, h7.out, hm⟩
  refine Steps.cons (i := 5) rfl ?_ ?_
  · rintro L a u ⟨v0, v3, v6, x0, x1, x2, x3, x4, x5, x6, x7, rfl, h0, h1, h2, h3, h4, h5, h6, h7, hm⟩ hi hd K hK
    simp only [putAll, Act.put, List.setIfInBounds_toArray, List.set_cons_zero, List.set_cons_succ]
    (try simp [Region.binds] at hd)
    replace h0 := Lib.hid h0
    replace h1 := Lib.hid h1
    replace h2 := Lib.hid h2
    replace h3 := Lib.hid h3
    replace h4 := Lib.hid h4
    replace h5 := Lib.hid h5
    replace h6 := Lib.hid h6
    replace h7 := Lib.hid h7
    obtain rfl := (h4.out (by simp [hd])).symm
    have c1 := HQ1.out u hm.b
    go_simp
    exact hK.out _ _ ⟨v0, v3, v6, _, _, _, _, _, _, _, _, by ((simp only [putAll, Act.put, List.setIfInBounds_toArray, List.set_cons_zero, List.set_cons_succ]) <;> rfl), h0.out, h1.out, h2.out, h3.out, h4.out, (fun _ => rfl), h6.out, h7.out, hm⟩
  refine Steps.cons (i := 6) rfl ?_ ?_
  · rintro L a u ⟨v0, v3, v6, x0, x1, x2, x3, x4, x5, x6, x7, rfl, h0, h1, h2, h3, h4, h5, h6, h7, hm⟩ hi hd K hK
    simp only [putAll, Act.put, List.setIfInBounds_toArray, List.set_cons_zero, List.set_cons_succ]
    (try simp [Region.binds] at hd)
    replace h0 := Lib.hid h0
    replace h1 := Lib.hid h1
    replace h2 := Lib.hid h2
    replace h3 := Lib.hid h3
    replace h4 := Lib.hid h4
    replace h5 := Lib.hid h5
    replace h6 := Lib.hid h6
    replace h7 := Lib.hid h7
    obtain rfl := (h3.out (by simp [hd])).symm
    obtain rfl := (h5.out (by simp [hd])).symm
    have hl3 : L 3 = true := by simp [hd]
    have hown := hm.r3 hl3 hi
    rw [if_pos (by rfl)]
    refine wp_append_lies _ (.tmp 12) (.tmp 14) 32 rfl w1.heap.size TStr i0 (.string ⟨#[]⟩) 1 16 Tryz.underlying32 hi0 hz0 hz1 hz2 rfl (by decide) v3 A.length (A.map sv) (by rfl) hown ⟨gB, 0, none⟩ n cB (C.map sv) (by rfl) (by simp [HNC.out]) (fun j y hy => HCB.out u hm.b j y hy) (fun y hy => one_sv hy) hn0 (by have := HNA.out; unfold maxLen; omega) (by have := HNA.out; omega) hm.b.size _ rfl ?_
    intro g2 cap2 w2 hown2 hgrow hat hg2
    exact hK.out _ _ ⟨v0, v3, _, _, _, _, _, _, _, _, _, by ((simp only [putAll, Act.put, List.setIfInBounds_toArray, List.set_cons_zero, List.set_cons_succ]) <;> rfl), h0.out, h1.out, h2.out, h3.out, h4.out, h5.out, (fun _ => rfl), (fun h => absurd (hm.m7 h) (by rw [hi]; decide)), (hm.second hi hown2 hgrow hown)⟩
  refine Steps.cons (i := 7) rfl ?_ ?_
  · rintro L a u ⟨v0, v3, v6, x0, x1, x2, x3, x4, x5, x6, x7, rfl, h0, h1, h2, h3, h4, h5, h6, h7, hm⟩ hi hd K hK
    simp only [putAll, Act.put, List.setIfInBounds_toArray, List.set_cons_zero, List.set_cons_succ]
    (try simp [Region.binds] at hd)
    replace h0 := Lib.hid h0
    replace h1 := Lib.hid h1
    replace h2 := Lib.hid h2
    replace h3 := Lib.hid h3
    replace h4 := Lib.hid h4
    replace h5 := Lib.hid h5
    replace h6 := Lib.hid h6
    replace h7 := Lib.hid h7
    obtain rfl := (h6.out (by simp [hd])).symm
    go_simp
    exact hK.out _ _ ⟨v0, v3, v6, _, _, _, _, _, _, _, _, by ((simp only [putAll, Act.put, List.setIfInBounds_toArray, List.set_cons_zero, List.set_cons_succ]) <;> rfl), h0.out, h1.out, h2.out, h3.out, h4.out, h5.out, h6.out, (fun _ => rfl), (hm.last (by simp [hd]))⟩
  · exact Steps.nil
  · rintro L a u ⟨v0, v3, v6, x0, x1, x2, x3, x4, x5, x6, x7, rfl, h0, h1, h2, h3, h4, h5, h6, h7, hm⟩ hall
    obtain rfl := (h7 (hall 7 (by decide))).symm
    simp only [putAll, Act.put, List.setIfInBounds_toArray, List.set_cons_zero, List.set_cons_succ]
    have HR6 := Lib.hid (hm.r6 (hall 6 (by decide)))
    have HBu := Lib.hid hm.b
    clear hm
    obtain ⟨av, cv, rfl⟩ := own_slice HR6.out
    have HO : Hid (Ow w1.heap.size u (.slice av (A ++ C).length cv) (A ++ C)) := HR6.out
    rw [← HF.out] at HO ⊢
    clear HR6
    have hF9 : F.length ≤ 2000 := by have := HFL.out; omega
    obtain ⟨A9, c9, ev, hd1, hst, hd2, hd3⟩ := HO.out.form
    obtain ⟨rfl, rfl⟩ : av = A9 ∧ cv = c9 := by simpa using ev
    have HS := Lib.hid hst
    have HBw : Hid (Below w.heap.size w u) := hb1.out.trans (HBu.out.mono hb1.out.size)
    clear ev hd1 hst hd2 hd3 HO
    go_wp2_with fail
    go_loopg [6] F.length (fun kx s6 wr => ∃ j : Nat, s6 = .int .i64 (j : Int) ∧ j ≤ F.length ∧ Hid (Below u.heap.size u wr) ∧ F.length ≤ j + kx)
    case atStart => exact ⟨0, rfl, Nat.zero_le _, Below.refl _ _, by omega⟩
    case round =>
      obtain ⟨j, rfl, hj, HB2, hkx⟩ := hrel
      have HB3 : Hid (Below w.heap.size w wr) := HBw.out.trans (HB2.out.mono HBw.out.size)
      by_cases hlt : j < F.length
      · have KR1 := Lib.hid (KR.out wr HB3.out j (by have := HFL.out; omega))
        have hq : F.getD j [] = F[j] := by rw [List.getD_eq_getElem?_getD, List.getElem?_eq_getElem hlt]; rfl
        rw [hq] at KR1
        obtain ⟨b, off, rfl, hbl, hc⟩ := (HS.out.later HB2.out) j (by rw [bas_len]; exact hlt)
        have e3 : (bas F)[j]'(by rw [bas_len]; exact hlt) = ⟨F[j].toArray⟩ := by simp [bas]
        rw [e3] at hc
        obtain ⟨y, hy⟩ : ∃ y, y = (⟨F[j].toArray⟩ : ByteArray) := ⟨_, rfl⟩
        rw [← hy] at hc KR1
        have j0 : (0 : Int) ≤ (j : Int) := by omega
        have j1 : (j : Int) < (F.length : Int) := by omega
        have HBL := Lib.hid hbl
        clear hy e3 hbl hq
        go_wp2_with fail
        refine KR1.out.mono ?_
        rintro e w5 ⟨rfl, hb⟩
        have HB5 : Hid (Below u.heap.size u w5) := HB2.out.trans (hb.mono HB2.out.size)
        have hc5 := (hb.cell (p := ⟨b, off + j, none⟩) HBL.out).trans hc
        clear hb hc
        go_wp2_with fail
        go_roundg (F.length - (j + 1))
        case measure => omega
        case rel => exact ⟨j + 1, by simp, by omega, HB5, by omega⟩
      · clear hkx
        go_wp2_with fail
        go_ret
        exact ⟨rfl, HB3.out⟩
end Go.Proofs.YtbbnpcldplmgfaaGreatDoor.Wl
end
