/- Package row: a row in memory; what it has, what it takes. -/
import Derived.Test.YtjlncjabiofklaaDoorDwOwn
import Derived.Test.YtjlncjabiofklaaDoorSfGet
import Derived.Test.YtjlncjabiofklaaDoorRkA
import Derived.Deep.DeepCutAuto
namespace Go.Proofs.YtjlncjabiofklaaDoor.Rk
open Go Go.RowKit Dv Rf Shf
open Tal (Strs bas)
abbrev TR : TypeId := 73
abbrev TStr : TypeId := 9
/-- A row: where, what was read, the greatest stamp; down or not. -/
structure Rm where
  f : Nat
  n : Nat
  S : Ld
  top : Nat
  down : Bool
def Rm.cells (R : Rm) (g : Nat) (tv : Value) : List Value := [.pointer (some ⟨g, 0, none⟩), .int .i64 (R.f : Int), .int .i64 (R.n : Int), tv, .int .u64 (R.S.first : Int), .int .u64 (R.S.last : Int), .int .u64 (R.top : Int), .int .i64 (R.S.e : Int), .bool R.down]
structure At (w : World) (r g : Nat) (tv : Value) (R : Rm) : Prop where
  blk : Rw w r TR (R.cells g tv)
  t : w.ownsRow 0 TStr 1 tv R.S.T.length (R.S.T.map sv)
def Bs (r : Nat) (tv : Value) (j : Nat) : Prop := j = r ∨ tv.ownBlock = some j
/-- What an operation leaves of a row. -/
def Left (r g : Nat) (tv : Value) (R : Rm) (w w' : World) : Prop := ∃ tv', At w' r g tv' R ∧ Keeps (Bs r tv) w w' ∧ ∀ j, Bs r tv' j → Bs r tv j ∨ w.heap.size ≤ j
section
variable {w w' : World} {r g : Nat} {tv : Value} {R : Rm}
theorem At.keeps {T : Nat → Prop} (h : At w r g tv R) (k : Keeps T w w') (hT : ∀ j, Bs r tv j → ¬ T j) : At w' r g tv R := ⟨h.blk.keeps k (hT r (.inl rfl)), own_keeps h.t k fun j hj => hT j (.inr hj)⟩
theorem At.later (h : At w r g tv R) (k : Below w.heap.size w w') : At w' r g tv R := h.keeps (Keeps.of (fun _ => False) k) fun _ _ h => h
theorem At.lt (h : At w r g tv R) : ∀ j, Bs r tv j → j < w.heap.size := by
  rintro j (rfl | hj)
  · exact h.blk.lt
  · exact (h.t.lt j hj).2
theorem At.ne (h : At w r g tv R) : tv.ownBlock ≠ some r := own_type h.t h.blk (by decide)
theorem At.c0 (h : At w r g tv R) : w.cell? ⟨r, 0, none⟩ = some (.pointer (some ⟨g, 0, none⟩)) := h.blk.cell 0
theorem At.c1 (h : At w r g tv R) : w.cell? ⟨r, 1, none⟩ = some (.int .i64 (R.f : Int)) := h.blk.cell 1
theorem At.c2 (h : At w r g tv R) : w.cell? ⟨r, 2, none⟩ = some (.int .i64 (R.n : Int)) := h.blk.cell 2
theorem At.c3 (h : At w r g tv R) : w.cell? ⟨r, 3, none⟩ = some tv := h.blk.cell 3
theorem At.c4 (h : At w r g tv R) : w.cell? ⟨r, 4, none⟩ = some (.int .u64 (R.S.first : Int)) := h.blk.cell 4
theorem At.c5 (h : At w r g tv R) : w.cell? ⟨r, 5, none⟩ = some (.int .u64 (R.S.last : Int)) := h.blk.cell 5
theorem At.c6 (h : At w r g tv R) : w.cell? ⟨r, 6, none⟩ = some (.int .u64 (R.top : Int)) := h.blk.cell 6
theorem At.c7 (h : At w r g tv R) : w.cell? ⟨r, 7, none⟩ = some (.int .i64 (R.S.e : Int)) := h.blk.cell 7
theorem At.c8 (h : At w r g tv R) : w.cell? ⟨r, 8, none⟩ = some (.bool R.down) := h.blk.cell 8
end
set_option maxHeartbeats 800000 in
theorem is_c (r : Nat) (w : World) (n : Nat) (h : w.cell? ⟨r, 2, none⟩ = some (.int .i64 (n : Int))) (hn : 0 < n) : Calls Tryd.prog 34 #[.pointer (some ⟨r, 0, none⟩)] w fun e w' => e = .returned (.bool true) ∧ w = w' := by
  go_enter Tryd.func34, Tryd.ntmps34
  go_wp2
  go_ret
  exact ⟨rfl, rfl⟩
set_option maxHeartbeats 800000 in
theorem is_nil (w : World) : Calls Tryd.prog 34 #[.pointer none] w fun e w' => e = .returned (.bool false) ∧ w = w' := by
  go_enter Tryd.func34, Tryd.ntmps34
  go_wp2
  go_ret
  exact ⟨rfl, rfl⟩
section
variable (r g : Nat) (tv : Value) (R : Rm) (w : World) (h : At w r g tv R) (hn : 0 < R.n)
include h hn
set_option maxHeartbeats 800000 in
theorem first_c : Calls Tryd.prog 19 #[.pointer (some ⟨r, 0, none⟩)] w fun e w' => e = .returned (.int .u64 (R.S.first : Int)) ∧ w = w' := by
  have K := Lib.hid (is_c r w R.n h.c2 hn)
  have c := h.c4
  clear h
  go_enter Tryd.func19, Tryd.ntmps19
  go_wp2_with fail
  refine K.out.mono ?_
  rintro e w' ⟨rfl, rfl⟩
  go_wp2_with fail
  go_ret
  exact ⟨rfl, rfl⟩
set_option maxHeartbeats 800000 in
theorem top_c : Calls Tryd.prog 39 #[.pointer (some ⟨r, 0, none⟩)] w fun e w' => e = .returned (.int .u64 (R.top : Int)) ∧ w = w' := by
  have K := Lib.hid (is_c r w R.n h.c2 hn)
  have c := h.c6
  clear h
  go_enter Tryd.func39, Tryd.ntmps39
  go_wp2_with fail
  refine K.out.mono ?_
  rintro e w' ⟨rfl, rfl⟩
  go_wp2_with fail
  go_ret
  exact ⟨rfl, rfl⟩
set_option maxHeartbeats 800000 in
theorem end_c : Calls Tryd.prog 42 #[.pointer (some ⟨r, 0, none⟩)] w fun e w' => e = .returned (.int .i64 (R.S.e : Int)) ∧ w = w' := by
  have K := Lib.hid (is_c r w R.n h.c2 hn)
  have c := h.c7
  clear h
  go_enter Tryd.func42, Tryd.ntmps42
  go_wp2_with fail
  refine K.out.mono ?_
  rintro e w' ⟨rfl, rfl⟩
  go_wp2_with fail
  go_ret
  exact ⟨rfl, rfl⟩
set_option maxHeartbeats 1600000 in
theorem room_c (hn9 : R.n ≤ 100000) (he : R.S.e ≤ R.n) : Calls Tryd.prog 37 #[.pointer (some ⟨r, 0, none⟩)] w fun e w' => e = .returned (.int .i64 ((R.n - R.S.e : Nat) : Int)) ∧ ∃ n, w' = w.drewN n := by
  have K := Lib.hid (is_c r w R.n h.c2 hn)
  have c := h.c7
  have c2 := h.c2
  have E := Lib.hid (show (R.n : Int) - (R.S.e : Int) = ((R.n - R.S.e : Nat) : Int) by omega)
  have q0 : (R.S.e : Int) ≤ (R.n : Int) := by omega
  have q1 : (R.n : Int) ≤ 100000 := by omega
  have HR : Hid (IntKind.i64.wrap ((R.n : Int) - (R.S.e : Int)) = (R.n : Int) - (R.S.e : Int)) := IntWalk.i64_in _ (by omega)
  clear h he hn9
  go_enter Tryd.func37, Tryd.ntmps37
  go_wp2_with fail
  refine K.out.mono ?_
  rintro e w' ⟨rfl, rfl⟩
  go_wp2_with fail
  have hr := HR.out
  go_quiet (fail)
  clear hr
  go_wp2_with fail
  go_ret
  rw [E.out]
  exact ⟨rfl, _, rfl⟩
end
theorem own_slice {w : World} {b e sz n : Nat} {v : Value} {xs : List Value} (h : w.ownsRow b e sz v n xs) : ∃ a c, v = .slice a n c := by
  rcases h.2 with ⟨rfl, rfl⟩ | ⟨g, cap, cur, rfl, _⟩
  · exact ⟨_, _, rfl⟩
  · exact ⟨_, _, rfl⟩
/-- What Texts hands out. -/
def TxRes (T : List (List UInt8)) (w : World) (e : Ending) (w' : World) : Prop := ∃ v, e = .returned v ∧ w'.ownsRow w.heap.size TStr 1 v T.length (T.map sv) ∧ Below w.heap.size w w'
theorem bas_cells (T : List (List UInt8)) : (bas T).map Value.string = T.map sv := by unfold bas sv; simp
set_option maxHeartbeats 1600000 in
theorem texts_c (r g : Nat) (tv : Value) (R : Rm) (w : World) (h : At w r g tv R) (hn : 0 < R.n) (hT : R.S.T.length ≤ 100000) : Calls Tryd.prog 21 #[.pointer (some ⟨r, 0, none⟩)] w (TxRes R.S.T w) := by
  have K := Lib.hid (is_c r w R.n h.c2 hn)
  have c := h.c3
  have key : Calls Tryd.prog 35 #[tv] w (TxRes R.S.T w) := by
    rcases h.t.2 with ⟨rfl, h0⟩ | ⟨b, cap, cur, rfl, hb, hbl, hr⟩
    · refine (Tryd.slices_Clone_string_nil 0 0 w).mono ?_
      rintro e w' ⟨rfl, rfl⟩
      have hT0 : R.S.T = [] := by simpa using h0
      rw [hT0]
      exact ⟨_, rfl, World.ownsRow_nil _ _ _ _, Below.refl _ _⟩
    · have hl : (bas R.S.T).length = R.S.T.length := by simp [bas]
      refine (Tryd.slices_Clone_string b 0 R.S.T.length cap (bas R.S.T) w (by omega) (by omega) (fun j hj => ?_)).mono ?_
      · rw [Nat.zero_add]
        have h2 := (own_cell h.t).2 j (.string (List.getD (bas R.S.T) j ByteArray.empty)) (by
          rw [← bas_cells]
          simp [List.getD, List.getElem?_eq_getElem hj])
        exact h2
      · rintro e w' ⟨v', rfl, h1, _, h3⟩
        rw [show (bas R.S.T).take R.S.T.length = bas R.S.T by rw [← hl, List.take_length], show (bas R.S.T).map (Value.string) = R.S.T.map sv from bas_cells _] at h1
        exact ⟨_, rfl, h1, h3⟩
  have KC := Lib.hid key
  obtain ⟨a, cap, rfl⟩ := own_slice h.t
  clear h key
  go_enter Tryd.func21, Tryd.ntmps21
  go_wp2_with fail
  refine K.out.mono ?_
  rintro e w' ⟨rfl, rfl⟩
  go_wp2_with fail
  refine KC.out.mono ?_
  rintro e w' ⟨v, rfl, h1, h2⟩
  obtain ⟨a2, cap2, rfl⟩ := own_slice h1
  have H1 := Lib.hid h1
  have H2 := Lib.hid h2
  clear h1 h2
  go_wp2_with fail
  go_ret
  exact ⟨_, rfl, H1.out, H2.out⟩
end Go.Proofs.YtjlncjabiofklaaDoor.Rk
