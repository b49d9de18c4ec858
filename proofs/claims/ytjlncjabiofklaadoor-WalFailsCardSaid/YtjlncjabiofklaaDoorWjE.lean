/- Joined: WlLaw0 WlSame. -/
import Derived.Test.YtjlncjabiofklaaDoorWlOpen
import Derived.Deep.AppendLies
section
namespace Go.Proofs.YtjlncjabiofklaaDoor.Wl
open Go Go.RowKit Dv Rf Shf Rk
open Tal (Strs bas)
/-- The lists of a slice of acts. -/
def Ls6 (w : World) (a : Option Addr) (LL : List (List Rk.Sec)) : Prop := ∀ j (h : j < LL.length), ∃ b off s cap, a = some ⟨b, off, none⟩ ∧ b < w.heap.size ∧ w.cell? ⟨b, off + j * 6 + 1, none⟩ = some (.slice s (LL[j]'h).length cap) ∧ Strs w s (bas (LL[j]'h))
theorem Ls6.later {w w' : World} {a : Option Addr} {LL : List (List Rk.Sec)} (h : Ls6 w a LL) (k : Below w.heap.size w w') : Ls6 w' a LL := fun j hj => by
  obtain ⟨b, off, s, cap, h1, h2, h3, h4⟩ := h j hj
  exact ⟨b, off, s, cap, h1, Nat.lt_of_lt_of_le h2 k.size, (k.cell (p := ⟨b, off + j * 6 + 1, none⟩) h2).trans h3, h4.later k⟩
def GrRes (LL : List (List Rk.Sec)) (w : World) (e : Ending) (w' : World) : Prop := ∃ z, e = .returned (.bool z) ∧ w = w' ∧ (z = false → LL.length ≤ 40 ∧ ∀ l ∈ LL, Small l)
set_option maxRecDepth 100000 in
set_option maxHeartbeats 3200000 in
theorem great_c (LL : List (List Rk.Sec)) (a : Option Addr) (cap : Nat) (w : World) (hA : Ls6 w a LL) (hl : LL.length ≤ 9223372036854775807) (hz : ∀ l ∈ LL, l.length ≤ 9223372036854775807 ∧ ∀ p ∈ l, p.length ≤ 9223372036854775807) :
    Calls Tryd.prog 6 #[.slice a LL.length cap] w (GrRes LL w) := by
  have HA := Lib.hid hA
  have HZ := Lib.hid hz
  clear hA hz
  by_cases hn : 40 < LL.length
  · have hn' : (40 : Int) < (LL.length : Int) := by omega
    clear hn
    go_enter Tryd.func6, Tryd.ntmps6
    go_wp2_with fail
    go_ret
    exact ⟨true, rfl, rfl, fun h => by cases h⟩
  · have hn' : ¬ (40 : Int) < (LL.length : Int) := by omega
    have h40 : LL.length ≤ 40 := by omega
    clear hn hl
    go_enter Tryd.func6, Tryd.ntmps6
    go_wp2_with fail
    clear hn'
    go_loopg [3] LL.length (fun kx s3 wr => ∃ i : Nat, s3 = .int .i64 (i : Int) ∧ i ≤ LL.length ∧ Hid (w = wr) ∧ Hid (∀ j (h : j < LL.length), j < i → Small LL[j]) ∧ LL.length ≤ i + kx)
    case atStart => exact ⟨0, rfl, Nat.zero_le _, rfl, fun j h h0 => absurd h0 (Nat.not_lt_zero _), by omega⟩
    case round =>
      obtain ⟨i, rfl, hi, HW, HS, hkx⟩ := hrel
      obtain rfl := HW.out
      by_cases hlt : i < LL.length
      · obtain ⟨b, off, s, cp, rfl, hb, hc, hst⟩ := HA.out i hlt
        have hzz := HZ.out _ (List.getElem_mem hlt)
        obtain ⟨l, hle⟩ : ∃ l, l = LL[i] := ⟨_, rfl⟩
        rw [← hle] at hc hst hzz
        have HST := Lib.hid hst
        have HZZ := Lib.hid hzz.2
        have hz9 := hzz.1
        have j0 : (0 : Int) ≤ (i : Int) := by omega
        have j1 : (i : Int) < (LL.length : Int) := by omega
        have HLE := Lib.hid hle
        clear hst hzz hle hb
        by_cases h10 : 10 < l.length
        · have h10' : (10 : Int) < (l.length : Int) := by omega
          clear h10 hkx
          go_wp2_with fail
          go_ret
          exact ⟨true, rfl, rfl, fun h => by cases h⟩
        · have h10' : ¬ (10 : Int) < (l.length : Int) := by omega
          have h11 : l.length ≤ 10 := by omega
          clear h10 hz9
          go_wp2_with fail
          clear h10'
          go_loopg [4] l.length (fun ky s4 wr => ∃ k : Nat, s4 = .int .i64 (k : Int) ∧ k ≤ l.length ∧ Hid (w = wr) ∧ Hid (∀ j (h : j < l.length), j < k → l[j].length ≤ 400) ∧ l.length ≤ k + ky)
          case atStart => exact ⟨0, rfl, Nat.zero_le _, rfl, fun j h h0 => absurd h0 (Nat.not_lt_zero _), by omega⟩
          case round =>
            obtain ⟨k, rfl, hk, HW2, HK, hky⟩ := hrel
            obtain rfl := HW2.out
            by_cases hlk : k < l.length
            · obtain ⟨b2, off2, rfl, hb2, hc2⟩ := HST.out k (by rw [bas_len]; exact hlk)
              have e1 : (bas l)[k]'(by rw [bas_len]; exact hlk) = ⟨(l[k]'hlk).toArray⟩ := by simp [bas]
              rw [e1] at hc2
              have hz2 := HZZ.out _ (List.getElem_mem hlk)
              obtain ⟨t, hte⟩ : ∃ t, t = (⟨(l[k]'hlk).toArray⟩ : ByteArray) := ⟨_, rfl⟩
              have htl : t.size = (l[k]'hlk).length := by rw [hte]; rfl
              rw [← hte] at hc2
              rw [← htl] at hz2
              have HTL := Lib.hid htl
              have k0 : (0 : Int) ≤ (k : Int) := by omega
              have k1 : (k : Int) < (l.length : Int) := by omega
              clear e1 hte htl hb2
              by_cases h400 : 400 < t.size
              · have h4' : (400 : Int) < (t.size : Int) := by omega
                clear h400 hky hkx hz2
                go_wp2_with fail
                go_ret
                exact ⟨true, rfl, rfl, fun h => by cases h⟩
              · have h4' : ¬ (400 : Int) < (t.size : Int) := by omega
                have HK2 : Hid (∀ j (h : j < l.length), j < k + 1 → l[j].length ≤ 400) := fun j h hj => by
                  by_cases e : j < k
                  · exact HK.out j h e
                  · obtain rfl : j = k := by omega
                    rw [← HTL.out]; omega
                clear h400 hz2
                go_wp2_with fail
                go_roundg (l.length - (k + 1))
                case measure => omega
                case rel => exact ⟨k + 1, by simp, by omega, rfl, HK2, by omega⟩
            · have HS2 : Hid (∀ j (h : j < LL.length), j < i + 1 → Small LL[j]) := fun j h hj => by
                by_cases e : j < i
                · exact HS.out j h e
                · obtain rfl : j = i := by omega
                  rw [← HLE.out]
                  refine ⟨h11, fun p hp => ?_⟩
                  obtain ⟨q, hq, rfl⟩ := List.getElem_of_mem hp
                  exact HK.out q hq (by omega)
              clear hky
              go_wp2_with fail
              go_roundg (LL.length - (i + 1))
              case measure => omega
              case rel => exact ⟨i + 1, by simp, by omega, rfl, HS2, by omega⟩
      · have HF : Hid (∀ l ∈ LL, Small l) := fun l hl => by
          obtain ⟨q, hq, rfl⟩ := List.getElem_of_mem hl
          exact HS.out q hq (by omega)
        clear hkx
        go_wp2_with fail
        go_ret
        exact ⟨false, rfl, rfl, fun _ => ⟨h40, HF.out⟩⟩
end Go.Proofs.YtjlncjabiofklaaDoor.Wl
end
section
namespace Go.Proofs.YtjlncjabiofklaaDoor.Wl
open Go Go.RowKit Dv Rf Shf Rk
open Tal (Strs bas)
theorem one_sv {A : List Rk.Sec} {y : Value} (h : y ∈ A.map sv) : y.oneCell' = true := by
  obtain ⟨x, _, rfl⟩ := List.mem_map.1 h
  rfl
/-- Where both rows stand that are put together, in any order. -/
structure Ap (w : World) (A C : List Rk.Sec) (l0 l3 l6 l7 : Bool) (v0 v3 v6 : Value) (u : World) : Prop where
  b : Below w.heap.size w u
  r0 : l0 = true → l3 = false → u.ownsRow w.heap.size TStr 1 v0 0 []
  r3 : l3 = true → l6 = false → u.ownsRow w.heap.size TStr 1 v3 A.length (A.map sv)
  r6 : l6 = true → Ow w.heap.size u v6 (A ++ C)
  m3 : l3 = true → l0 = true
  m6 : l6 = true → l3 = true
  m7 : l7 = true → l6 = true
section
variable {w u u' : World} {A C : List Rk.Sec} {l0 l3 l6 l7 : Bool} {v0 v3 v6 : Value}
theorem Ap.start (k : Below w.heap.size w u) : Ap w A C false false false false v0 v3 v6 u := ⟨k, fun h => (by cases h), fun h => (by cases h), fun h => (by cases h), fun h => (by cases h), fun h => (by cases h), fun h => (by cases h)⟩
theorem Ap.zero (h : Ap w A C l0 l3 l6 l7 v0 v3 v6 u) (hi : l0 = false) : Ap w A C true l3 l6 l7 (.slice (some ⟨u.heap.size, 0, none⟩) 0 0) v3 v6 (u.alloc (.cells #[] TStr)) := by
  have e3 : l3 = false := by cases l3; rfl; have := h.m3 rfl; rw [hi] at this; cases this
  have e6 : l6 = false := by cases l6; rfl; have := h.m6 rfl; rw [e3] at this; cases this
  subst e3 e6
  exact ⟨h.b.alloc h.b.size _, fun _ _ => own_zero _ _ _ _ h.b.size, fun h => (by cases h), fun h => (by cases h), fun h => (by cases h), fun h => (by cases h), h.m7⟩
theorem Ap.first (h : Ap w A C l0 l3 l6 l7 v0 v3 v6 u) (hi : l3 = false) {v : Value} {n : Nat} (hown : u'.ownsRow w.heap.size TStr 1 v (0 + n) ([] ++ A.map sv)) (hg : u.grownBy u' v0.ownBlock) (h0 : u.ownsRow w.heap.size TStr 1 v0 0 []) (hl0 : l0 = true := by assumption) (hn : n = A.length := by first | exact HNA.out.symm | assumption) : Ap w A C l0 true l6 l7 v0 v v6 u' := by
  have e6 : l6 = false := by cases l6; rfl; have := h.m6 rfl; rw [hi] at this; cases this
  subst e6 hn
  rw [Nat.zero_add, List.nil_append] at hown
  exact ⟨h.b.grown hg h.b.size fun j hj => (h0.lt j hj).1, fun _ h => (by cases h), fun _ _ => hown, fun h => (by cases h), fun _ => hl0, fun h => (by cases h), h.m7⟩
theorem Ap.second (h : Ap w A C l0 l3 l6 l7 v0 v3 v6 u) (hi : l6 = false) {v : Value} {n : Nat} (hown : u'.ownsRow w.heap.size TStr 1 v (A.length + n) (A.map sv ++ C.map sv)) (hg : u.grownBy u' v3.ownBlock) (h3 : u.ownsRow w.heap.size TStr 1 v3 A.length (A.map sv)) (hl3 : l3 = true := by assumption) (hn : n = C.length := by first | exact HNC.out.symm | assumption) : Ap w A C l0 l3 true l7 v0 v3 v u' := by
  have e7 : l7 = false := by cases l7; rfl; have := h.m7 rfl; rw [hi] at this; cases this
  subst e7 hn hl3
  refine ⟨h.b.grown hg h.b.size fun j hj => (h3.lt j hj).1, fun _ h => (by cases h), fun _ h => (by cases h), fun _ => ?_, h.m3, fun _ => rfl, fun h => (by cases h)⟩
  unfold Ow
  rw [List.length_append, List.map_append]
  exact hown
theorem Ap.last (h : Ap w A C l0 l3 l6 l7 v0 v3 v6 u) (hl : l6 = true) : Ap w A C l0 l3 l6 true v0 v3 v6 u := ⟨h.b, h.r0, h.r3, h.r6, h.m3, h.m6, fun _ => hl⟩
end
theorem own_some {base : Nat} {w : World} {v : Value} {L : List Rk.Sec} {n : Nat} (h : Ow base w v L) (e : L.length = n) (hn : 0 < n) : ∃ g c, v = .slice (some ⟨g, 0, none⟩) n c ∧ g < w.heap.size ∧ ∀ j y, (L.map sv)[j]? = some y → w.cell? ⟨g, j, none⟩ = some y := by
  subst e
  rcases id h.2 with ⟨rfl, h0⟩ | ⟨g, cap, cur, rfl, _⟩
  · have : L = [] := by simpa using h0
    subst this
    simp at hn
  · exact ⟨g, cap, rfl, Rf.own_cell h⟩
end Go.Proofs.YtjlncjabiofklaaDoor.Wl
end
