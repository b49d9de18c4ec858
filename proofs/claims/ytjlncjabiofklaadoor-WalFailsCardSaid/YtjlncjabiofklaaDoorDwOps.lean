/- Package drive: is, burn, Pending, Size, Fuse. -/
import Derived.Test.YtjlncjabiofklaaDoorDjA
import Derived.Test.YtjlncjabiofklaaDoorRows
import Derived.WalkKit
import Derived.ProofKit
import Derived.WalkLawsBesides
import Derived.WalkSpells
import Derived.LoopTactic
namespace Go.Proofs.YtjlncjabiofklaaDoor.Dv
open Go Go.RowKit
section
variable {w : World} {g bv bd : Nat} {pv fv : Value} {V : List Sec} {x : Dr}
theorem AtV.c0 (h : AtV w g bv bd pv fv V x) : w.cell? ⟨g, 0, none⟩ = some (.slice (some ⟨bv, 0, none⟩) x.n x.n) := h.blk.cell 0
theorem AtV.c1 (h : AtV w g bv bd pv fv V x) : w.cell? ⟨g, 1, none⟩ = some (.slice (some ⟨bd, 0, none⟩) x.n x.n) := h.blk.cell 1
theorem AtV.c2 (h : AtV w g bv bd pv fv V x) : w.cell? ⟨g, 2, none⟩ = some pv := h.blk.cell 2
theorem AtV.c3 (h : AtV w g bv bd pv fv V x) : w.cell? ⟨g, 3, none⟩ = some fv := h.blk.cell 3
theorem own_val {n : Nat} {xs : List Value} (h : w.ownsRow 0 TW 65 pv n xs) : ∃ a cap, pv = .slice a n cap := by
  rcases h.2 with ⟨rfl, rfl⟩ | ⟨g, cap, cur, rfl, _⟩
  · exact ⟨none, 0, rfl⟩
  · exact ⟨_, _, rfl⟩
end
set_option maxHeartbeats 800000 in
theorem is_c (g bv bd : Nat) (pv fv : Value) (x : Dr) (w : World) (h : At w g bv bd pv fv x) (hx : x.Ok) : Calls Tryd.prog 26 #[.pointer (some ⟨g, 0, none⟩)] w fun e w' => e = .returned (.bool true) ∧ w = w' := by
  have c0 := h.c0
  have hn : 0 < x.n := hx.n1
  clear h hx
  go_enter Tryd.func26, Tryd.ntmps26
  go_wp2
  go_ret
  exact ⟨rfl, rfl⟩
set_option maxHeartbeats 800000 in
theorem burn_none (g bv bd : Nat) (pv fv : Value) (x : Dr) (w : World) (h : At w g bv bd pv fv x) (hF : x.F = none) : Calls Tryd.prog 53 #[.pointer (some ⟨g, 0, none⟩)] w fun e w' => e = .returned (.int .i64 0) ∧ w = w' := by
  have c3 := h.c3
  rcases h.f with ⟨_, rfl⟩ | ⟨b, k, h1, _⟩
  · clear h hF
    go_enter Tryd.func53, Tryd.ntmps53
    go_wp2
    go_ret
    exact ⟨rfl, rfl⟩
  · rw [hF] at h1; cases h1
set_option maxHeartbeats 800000 in
theorem burn_zero (g bv bd : Nat) (pv fv : Value) (x : Dr) (w : World) (h : At w g bv bd pv fv x) (hF : x.F = some 0) : Calls Tryd.prog 53 #[.pointer (some ⟨g, 0, none⟩)] w fun e w' => e = .returned (.int .i64 30) ∧ w = w' := by
  have c3 := h.c3
  rcases h.f with ⟨h1, _⟩ | ⟨b, k, h1, rfl, h3⟩
  · rw [hF] at h1; cases h1
  · rw [hF] at h1
    cases h1
    have d0 : w.cell? ⟨b, 0, none⟩ = some (.int .i64 0) := h3.cell 0
    clear h hF h3
    go_enter Tryd.func53, Tryd.ntmps53
    go_wp2
    go_ret
    exact ⟨rfl, rfl⟩
set_option maxHeartbeats 800000 in
theorem burn_succ (g bv bd : Nat) (pv fv : Value) (x : Dr) (k : Nat) (w : World) (h : At w g bv bd pv fv x) (hx : x.Ok) (hF : x.F = some (k + 1)) : Calls Tryd.prog 53 #[.pointer (some ⟨g, 0, none⟩)] w fun e w' =>
    e = .returned (.int .i64 0) ∧ ∃ b, fv = .pointer (some ⟨b, 0, none⟩) ∧ w' = w.setCell ⟨b, 0, none⟩ (.int .i64 (k : Int)) := by
  have c3 := h.c3
  have hk := hx.f _ hF
  rcases h.f with ⟨h1, _⟩ | ⟨b, j, h1, rfl, h3⟩
  · rw [hF] at h1; cases h1
  · rw [hF] at h1
    cases h1
    have d0 : w.cell? ⟨b, 0, none⟩ = some (.int .i64 ((k + 1 : Nat) : Int)) := h3.cell 0
    have d1 : w.frozen? ⟨b, 0, none⟩ = false := h3.frozen 0
    clear h hF h3 hx
    go_enter Tryd.func53, Tryd.ntmps53
    go_wp2

    go_ret
    exact ⟨rfl, b, rfl, by simp⟩
set_option maxHeartbeats 800000 in
theorem pending_c (g bv bd : Nat) (pv fv : Value) (x : Dr) (w : World) (h : At w g bv bd pv fv x) (hx : x.Ok) : Calls Tryd.prog 16 #[.pointer (some ⟨g, 0, none⟩)] w fun e w' => e = .returned (.int .i64 (x.P.length : Int)) ∧ w = w' := by
  have c2 := h.c2
  have K := Lib.hid (is_c g bv bd pv fv x w h hx)
  obtain ⟨a, cap, rfl⟩ := own_val h.p
  clear h hx
  go_enter Tryd.func16, Tryd.ntmps16
  go_wp2_with fail
  refine K.out.mono ?_
  rintro e w' ⟨rfl, rfl⟩
  go_wp2_with fail
  go_ret
  exact ⟨rfl, rfl⟩
set_option maxHeartbeats 800000 in
theorem size_c (g bv bd : Nat) (pv fv : Value) (x : Dr) (w : World) (h : At w g bv bd pv fv x) (hx : x.Ok) : Calls Tryd.prog 17 #[.pointer (some ⟨g, 0, none⟩)] w fun e w' => e = .returned (.int .i64 (x.n : Int)) ∧ w = w' := by
  have c0 := h.c0
  have K := Lib.hid (is_c g bv bd pv fv x w h hx)
  clear h hx
  go_enter Tryd.func17, Tryd.ntmps17
  go_wp2_with fail
  refine K.out.mono ?_
  rintro e w' ⟨rfl, rfl⟩
  go_wp2_with fail
  go_ret
  exact ⟨rfl, rfl⟩
/-- What an operation leaves: a drive, which may lie in new blocks. -/
def Left (g bv bd : Nat) (pv fv : Value) (y : Dr) (w w' : World) : Prop :=
  ∃ pv' fv', At w' g bv bd pv' fv' y ∧ Keeps (Bs g bv bd pv fv) w w' ∧ ∀ k, Bs g bv bd pv' fv' k → Bs g bv bd pv fv k ∨ w.heap.size ≤ k
def Res (z : Int) (g bv bd : Nat) (pv fv : Value) (y : Dr) (w : World) (e : Ending) (w' : World) : Prop := e = .returned (.int .i64 z) ∧ Left g bv bd pv fv y w w'
theorem Left.same {g bv bd : Nat} {pv fv : Value} {y : Dr} {w w' : World} (h : At w g bv bd pv fv y) (k : Below w.heap.size w w') : Left g bv bd pv fv y w w' := ⟨pv, fv, h.later k, Keeps.of _ k, fun _ h => .inl h⟩
/-- The fuse, burnt. -/
theorem AtV.burnt {g bv bd : Nat} {pv : Value} {b : Nat} {V : List Sec} {x : Dr} {k : Nat} {w : World} (h : AtV w g bv bd pv (.pointer (some ⟨b, 0, none⟩)) V x) (hF : x.F = some (k + 1)) (bD : b ≠ g) (bV : b ≠ bv) (bE : b ≠ bd) (bP : pv.ownBlock ≠ some b) :
    AtV (w.setCell ⟨b, 0, none⟩ (.int .i64 (k : Int))) g bv bd pv (.pointer (some ⟨b, 0, none⟩)) V ⟨x.D, x.P, some k⟩ := by
  have K : Keeps (fun j => j = b) w (w.setCell ⟨b, 0, none⟩ (.int .i64 (k : Int))) := (Keeps.refl _ w).setCell b 0 _ (.inl rfl)
  refine ⟨h.blk.keeps K (Ne.symm bD), h.v.keeps K (Ne.symm bV), h.d.keeps K (Ne.symm bE), own_keeps h.p K (fun j hj e => bP (e ▸ hj)), .inr ⟨b, k, rfl, rfl, ?_⟩, h.ne⟩
  rcases h.f with ⟨h1, _⟩ | ⟨b', j, h1, h2, h3⟩
  · rw [hF] at h1; cases h1
  · injection h2 with h2
    injection h2 with h2
    injection h2 with h2
    subst h2
    exact h3.setCell 0 _
theorem Rw.type {w : World} {b b' : Nat} {t t' : TypeId} {L L' : List Value} (h : Rw w b t L) (h' : Rw w b' t' L') (hne : t ≠ t') : b ≠ b' := by
  rintro rfl
  have := h.symm.trans h'
  injection this with this
  injection this with _ h2
  exact hne h2
theorem own_type {w : World} {b base e size n : Nat} {t : TypeId} {L xs : List Value} {v : Value} (h : w.ownsRow base e size v n xs) (h' : Rw w b t L) (hne : t ≠ e) : v.ownBlock ≠ some b := by
  rcases h.2 with ⟨rfl, _⟩ | ⟨g, cap, cur, rfl, _, hg, _⟩
  · intro e; cases e
  · intro e
    injection e with e
    subst e
    have := hg.symm.trans h'
    injection this with this
    injection this with _ h2
    exact hne h2.symm
/-- burn: none is let through, or one less is. -/
theorem burn_no (g bv bd : Nat) (pv fv : Value) (x : Dr) (w : World) (h : At w g bv bd pv fv x) (hF : burn x.F = none) : Calls Tryd.prog 53 #[.pointer (some ⟨g, 0, none⟩)] w fun e w' => e = .returned (.int .i64 30) ∧ w = w' :=
  burn_zero g bv bd pv fv x w h (by
    cases hx : x.F with
    | none => rw [hx] at hF; cases hF
    | some k =>
      cases k with
      | zero => rfl
      | succ k => rw [hx] at hF; cases hF)
def Burnt (g bv bd : Nat) (pv fv : Value) (y : Dr) (w : World) (e : Ending) (w' : World) : Prop := e = .returned (.int .i64 0) ∧ At w' g bv bd pv fv y ∧ Keeps (fun k => ptrB fv = some k) w w'
theorem burn_yes (g bv bd : Nat) (pv fv : Value) (x : Dr) (F : Option Nat) (w : World) (h : At w g bv bd pv fv x) (hx : x.Ok) (hF : burn x.F = some F) :
    Calls Tryd.prog 53 #[.pointer (some ⟨g, 0, none⟩)] w (Burnt g bv bd pv fv ⟨x.D, x.P, F⟩ w) := by
  cases hxF : x.F with
  | none =>
    rw [hxF] at hF
    cases hF
    refine (burn_none g bv bd pv fv x w h hxF).mono ?_
    rintro e w' ⟨rfl, rfl⟩
    refine ⟨rfl, ?_, Keeps.refl _ _⟩
    have := h.f
    rw [hxF] at this
    exact ⟨h.blk, h.v, h.d, h.p, this, h.ne⟩
  | some k =>
    cases k with
    | zero => rw [hxF] at hF; cases hF
    | succ k =>
      rw [hxF] at hF
      cases hF
      refine (burn_succ g bv bd pv fv x k w h hx hxF).mono ?_
      rintro e w' ⟨rfl, b, rfl, rfl⟩
      rcases h.f with ⟨h1, _⟩ | ⟨b', j, h1, h2, h3⟩
      · rw [hxF] at h1; cases h1
      · injection h2 with h2
        injection h2 with h2
        injection h2 with h2
        subst h2
        exact ⟨rfl, h.burnt hxF (h3.type h.blk (by decide)) (h3.type h.v (by decide)) (h3.type h.d (by decide)) (own_type h.p h3 (by decide)), (Keeps.refl _ _).setCell b 0 _ (.inl rfl)⟩
theorem AtV.setF {g bv bd : Nat} {pv fv fv' : Value} {V : List Sec} {x : Dr} {w : World} {F : Option Nat} (h : AtV w g bv bd pv fv V x) (hf : Fu w fv' F) (hb : ptrB fv' ≠ some g) : AtV (w.setCell ⟨g, 3, none⟩ fv') g bv bd pv fv' V ⟨x.D, x.P, F⟩ := by
  have K : Keeps (fun j => j = g) w (w.setCell ⟨g, 3, none⟩ fv') := (Keeps.refl _ w).setCell g 3 _ (.inl rfl)
  exact ⟨h.blk.setCell 3 fv', h.v.keeps K (h.v.type h.blk (by decide)), h.d.keeps K (h.d.type h.blk (by decide)), own_keeps h.p K (fun j hj e => own_type h.p h.blk (by decide) (e ▸ hj)), hf.keeps K (fun j hj e => hb (e ▸ hj)), h.ne⟩
set_option maxHeartbeats 800000 in
theorem fuse_c (g bv bd : Nat) (pv fv : Value) (x : Dr) (n : Int) (w : World) (h : At w g bv bd pv fv x) (hx : x.Ok) : Calls Tryd.prog 9 #[.pointer (some ⟨g, 0, none⟩), .int .i64 n] w fun e w' => e = .returned (.tuple #[]) ∧ Left g bv bd pv fv (x.fuse n) w w' := by
  have hb : Below w.heap.size w (w.alloc (.cells #[.int .i64 n] 3)) := (Below.refl _ w).alloc (Nat.le_refl _) _
  have D0 := Lib.hid (h.later hb)
  have B0 := Lib.hid (Rw.new w [.int .i64 n] 3)
  have K := Lib.hid (is_c g bv bd pv fv x _ D0.out hx)
  have HB := Lib.hid hb
  have HG := Lib.hid h.blk.lt
  clear h hx hb
  by_cases hn : 0 ≤ n
  all_goals
    go_enter Tryd.func9, Tryd.ntmps9
    go_wp2_with fail
    refine K.out.mono ?_
    rintro e W ⟨rfl, hW⟩
    have D1 := Lib.hid (hW ▸ D0.out)
    have B1 := Lib.hid (hW ▸ B0.out)
    have HB1 := Lib.hid (hW ▸ HB.out)
    have c3 : W.cell? ⟨g, 3, none⟩ = some fv := D1.out.c3
    have f3 : W.frozen? ⟨g, 3, none⟩ = false := D1.out.blk.frozen 3
    have b0 : W.cell? ⟨w.heap.size, 0, none⟩ = some (.int .i64 n) := B1.out.cell 0
    have hne : w.heap.size ≠ g := by have := HG.out; omega
    clear hW K D0 B0 HB
    go_wp2_with fail
    go_end0
    refine ⟨rfl, ?_⟩
    unfold Dr.fuse
  · rw [if_neg (by omega)]
    have A1 := D1.out.setF (fv' := .pointer none) (F := none) (.inl ⟨rfl, rfl⟩) (by intro e; cases e)
    have A2 := A1.setF (fv' := .pointer (some ⟨w.heap.size, 0, none⟩)) (F := some n.toNat) (.inr ⟨_, n.toNat, rfl, rfl, by rw [show ((n.toNat : Nat) : Int) = n by omega]; exact B1.out.otherCell g 3 _ hne⟩) (by intro e; injection e with e; exact hne e)
    refine ⟨pv, _, A2, (((Keeps.of _ HB1.out).setCell g 3 _ (.inl (.inl rfl))).setCell g 3 _ (.inl (.inl rfl))), ?_⟩
    rintro k (rfl | rfl | rfl | hk | hk)
    · exact .inl (.inl rfl)
    · exact .inl (.inr (.inl rfl))
    · exact .inl (.inr (.inr (.inl rfl)))
    · exact .inl (.inr (.inr (.inr (.inl hk))))
    · cases hk; exact .inr (Nat.le_refl _)
  · rw [if_pos (by omega)]
    have A1 := D1.out.setF (fv' := .pointer none) (F := none) (.inl ⟨rfl, rfl⟩) (by intro e; cases e)
    refine ⟨pv, _, A1, ((Keeps.of _ HB1.out).setCell g 3 _ (.inl (.inl rfl))), ?_⟩
    rintro k (rfl | rfl | rfl | hk | hk)
    · exact .inl (.inl rfl)
    · exact .inl (.inr (.inl rfl))
    · exact .inl (.inr (.inr (.inl rfl)))
    · exact .inl (.inr (.inr (.inr (.inl hk))))
    · cases hk
end Go.Proofs.YtjlncjabiofklaaDoor.Dv
