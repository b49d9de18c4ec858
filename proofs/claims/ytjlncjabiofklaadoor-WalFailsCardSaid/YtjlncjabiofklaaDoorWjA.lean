/- Joined: WlMath WlAt WlOps WlRead WlTxns WlWrite. -/
import Derived.Test.YtjlncjabiofklaaDoorRkA
import Derived.Test.YtjlncjabiofklaaDoorRkB
section
namespace Go.Proofs.YtjlncjabiofklaaDoor.Wl
open Sf Lf Rk
/-- Where what is read begins, behind a beginning that was perhaps cut off. -/
theorem torn_first {D C : List Sec} {n M : Nat} {t : List UInt8} {z z0 : Ld} (h : TornBy D 0 (sheaf n t) C) (hD : Tbs D M) (nl : n < 18446744073709551616) (hM : M < n) (sl : t.length ≤ 98304) (hz0 : Loaded D z0) (hz : Loaded C z) :
    (z.first = n ∧ z.T = [t] ∧ z.e = many t.length) ∨ z = Ld.zero ∨ (z.first = z0.first ∧ z.first ≠ 0) := by
  have hb := torn_begin h hD (by omega) nl hM sl hz
  have hc := hz.r.chain
  cases hc with
  | refl => exact .inr (.inl rfl)
  | head h1 h2 =>
    obtain ⟨m, u, k, hi, hlt, rfl⟩ := step_some h1
    have h3 := h2.first (by unfold Ld.took; simp)
    have h4 : z.first = m := h3
    by_cases hmn : m = n
    · subst hmn
      obtain ⟨_, rfl, rfl⟩ := h.new hD hM sl hi (Nat.le_refl _)
      refine .inl ⟨h4, hb.2 h4, ?_⟩
      cases h2 with
      | refl => show 0 + _ = _; omega
      | head h5 _ =>
        exfalso
        obtain ⟨q, v, k', hq, hlq, _⟩ := step_some h5
        obtain ⟨hl, c, hg, _⟩ := is_leaf hq (is_pos hq)
        have hlq' : m < q := hlq
        rcases (h.sec hD nl hM hl).2 _ _ hg with ⟨_, g⟩ | ⟨j, _, _, g⟩ <;> omega
    · have ho := h.old hD nl hM hi hmn
      have hs := step_of (a := Ld.zero) ho hlt
      refine .inr (.inr ⟨?_, by rw [h4]; exact hi.n0⟩)
      have hr : Reads D (Ld.zero.took m u k) := .more .nil hs
      have hch := Loaded.from hr hz0
      rw [h4, hch.first (by unfold Ld.took; simp)]
      rfl
end Go.Proofs.YtjlncjabiofklaaDoor.Wl
end
section
namespace Go.Proofs.YtjlncjabiofklaaDoor.Wl
open Go Go.RowKit Dv Rf Shf Rk
open Tal (Strs bas)
abbrev TWl : TypeId := 55
/-- A log: its rows, which of them is the log, what was noted. -/
structure Wm where
  R0 : Rm
  R1 : Rm
  now : Nat
  many : Nat
  room : Nat
  age : Nat
  down : Bool
def Wm.cells (M : Wm) (r0 r1 : Nat) : List Value := [.pointer (some ⟨r0, 0, none⟩), .pointer (some ⟨r1, 0, none⟩), .int .i64 (M.now : Int), .int .i64 (M.many : Int), .int .i64 (M.room : Int), .int .u64 (M.age : Int), .bool M.down]
/-- The row that is the log. -/
def Wm.L (M : Wm) : Rm := if M.now = 0 then M.R0 else M.R1
def Wm.r (M : Wm) (r0 r1 : Nat) : Nat := if M.now = 0 then r0 else r1
/-- The drive's blocks are none of another type. -/
theorem os_other {U : Nat → Prop} {w : World} {g b : Nat} {x : Dr} {t : TypeId} {L : List Value} (h : Dv.Os U w g x) (k : Rw w b t L) (h1 : t ≠ TD) (h2 : t ≠ TS) (h3 : t ≠ TW) (h4 : t ≠ 3) : Dv.Os (fun j => U j ∧ j ≠ b) w g x := by
  obtain ⟨bv, bd, pv, fv, k1, k2⟩ := h
  refine ⟨bv, bd, pv, fv, k1, fun j hj => ⟨k2 j hj, ?_⟩⟩
  rintro rfl
  rcases hj with rfl | rfl | rfl | hj | hj
  · exact Rw.type k k1.blk h1 rfl
  · exact Rw.type k k1.v h2 rfl
  · exact Rw.type k k1.d h2 rfl
  · exact own_type k1.p k h3 hj
  · rcases k1.f with ⟨_, rfl⟩ | ⟨b', n, _, rfl, h5⟩
    · cases hj
    · cases hj; exact Rw.type k h5 h4 rfl
structure TrioV (U : Nat → Prop) (w : World) (b r0 r1 g : Nat) (t0 t1 : Value) (x : Dr) (M : Wm) : Prop where
  os : Dv.Os U w g x
  a0 : Rk.At w r0 g t0 M.R0
  a1 : Rk.At w r1 g t1 M.R1
  blk : Rw w b TWl (M.cells r0 r1)
  u0 : ∀ j, Rk.Bs r0 t0 j → U j
  u1 : ∀ j, Rk.Bs r1 t1 j → U j
  ub : U b
  sep : ∀ j, Rk.Bs r0 t0 j → ¬ Rk.Bs r1 t1 j
def Trio (U : Nat → Prop) (w : World) (b r0 r1 g : Nat) (x : Dr) (M : Wm) : Prop := ∃ t0 t1, TrioV U w b r0 r1 g t0 t1 x M
/-- What an operation leaves. -/
def Then (U : Nat → Prop) (b r0 r1 g : Nat) (x : Dr) (M : Wm) (w w' : World) : Prop := Trio (fun j => U j ∨ w.heap.size ≤ j) w' b r0 r1 g x M ∧ Keeps U w w'
section
variable {U T : Nat → Prop} {w w' w'' : World} {b r0 r1 g : Nat} {t0 t1 : Value} {x x' : Dr} {M M' : Wm} {R' : Rm}
theorem at_ne {r : Nat} {tv : Value} {R : Rm} (h : Rk.At w r g tv R) (k : Rw w b TWl (M.cells r0 r1)) : ¬ Rk.Bs r tv b := by
  rintro (e | e)
  · exact Rw.type k h.blk (by decide) e
  · exact own_type h.t k (by decide) e
theorem Trio.mono (h : Trio U w b r0 r1 g x M) (hU : ∀ j, U j → T j) : Trio T w b r0 r1 g x M := by
  obtain ⟨t0, t1, h⟩ := h
  exact ⟨t0, t1, h.os.mono hU, h.a0, h.a1, h.blk, fun j hj => hU j (h.u0 j hj), fun j hj => hU j (h.u1 j hj), hU b h.ub, h.sep⟩
theorem Trio.lt (h : Trio U w b r0 r1 g x M) : Trio (fun j => U j ∧ j < w.heap.size) w b r0 r1 g x M := by
  obtain ⟨t0, t1, h⟩ := h
  exact ⟨t0, t1, h.os.lt, h.a0, h.a1, h.blk, fun j hj => ⟨h.u0 j hj, h.a0.lt j hj⟩, fun j hj => ⟨h.u1 j hj, h.a1.lt j hj⟩, ⟨h.ub, h.blk.lt⟩, h.sep⟩
theorem Trio.keep (h : Trio U w b r0 r1 g x M) (k : Keeps T w w') (hd : ∀ j, U j → ¬ T j) : Trio U w' b r0 r1 g x M := by
  obtain ⟨t0, t1, h⟩ := h
  exact ⟨t0, t1, h.os.keep k hd, h.a0.keeps k fun j hj => hd j (h.u0 j hj), h.a1.keeps k fun j hj => hd j (h.u1 j hj), h.blk.keeps k (hd b h.ub), h.u0, h.u1, h.ub, h.sep⟩
theorem Trio.later (h : Trio U w b r0 r1 g x M) (k : Below w.heap.size w w') : Trio U w' b r0 r1 g x M := h.keep (Keeps.of (fun _ => False) k) fun _ _ h => h
theorem Then.refl (h : Trio U w b r0 r1 g x M) (k : Below w.heap.size w w') : Then U b r0 r1 g x M w w' := ⟨(h.later k).mono fun _ hj => .inl hj, Keeps.of _ k⟩
theorem Then.trans (h : Then U b r0 r1 g x M w w') (k : Then (fun j => U j ∨ w.heap.size ≤ j) b r0 r1 g x' M' w' w'') : Then U b r0 r1 g x' M' w w'' :=
  ⟨k.1.mono fun j hj => by
    rcases hj with hj | hj
    · exact hj
    · exact .inr (Nat.le_trans h.2.size hj), h.2.then k.2 fun j hj => hj⟩
theorem Then.later (h : Then U b r0 r1 g x M w w') (k : Below w'.heap.size w' w'') : Then U b r0 r1 g x M w w'' := h.trans (Then.refl h.1 k)
theorem Then.mono (h : Then U b r0 r1 g x M w w') (hU : ∀ j, U j → T j) : Then T b r0 r1 g x M w w' := ⟨h.1.mono fun j hj => hj.imp (hU j) id, h.2.mono fun j hj => .inl (hU j hj)⟩
/-- The first row and the drive, beside the others. -/
theorem Trio.half0 (h : Trio U w b r0 r1 g x M) : ∃ V : Nat → Prop, Both V w r0 g x M.R0 ∧ ∀ w' x' R', Past V r0 g x' R' w w' → Then U b r0 r1 g x' ⟨R', M.R1, M.now, M.many, M.room, M.age, M.down⟩ w w' := by
  obtain ⟨t0, t1, h⟩ := h
  refine ⟨fun j => (U j ∧ ¬ Rk.Bs r1 t1 j) ∧ j ≠ b, ⟨t0, os_other (os_row h.os h.a1) h.blk (by decide) (by decide) (by decide) (by decide), h.a0, fun j hj => ⟨⟨h.u0 j hj, h.sep j hj⟩, fun e => at_ne h.a0 h.blk (e ▸ hj)⟩⟩, fun w' x' R' k => ?_⟩
  obtain ⟨⟨t0', k1, k2, k3⟩, k4⟩ := k
  have n1 : ∀ j, Rk.Bs r1 t1 j → ¬ ((U j ∧ ¬ Rk.Bs r1 t1 j) ∧ j ≠ b) := fun j hj hn => hn.1.2 hj
  refine ⟨⟨t0', t1, k1.mono fun j hj => hj.imp (fun h => h.1.1) id, k2, h.a1.keeps k4 n1, h.blk.keeps k4 fun hn => hn.2 rfl, fun j hj => (k3 j hj).imp (fun h => h.1.1) id, fun j hj => .inl (h.u1 j hj), .inl h.ub, fun j hj hn => ?_⟩, k4.mono fun j hj => .inl hj.1.1⟩
  rcases k3 j hj with hk | hk
  · exact hk.1.2 hn
  · have := h.a1.lt j hn; omega
/-- The second row and the drive. -/
theorem Trio.half1 (h : Trio U w b r0 r1 g x M) : ∃ V : Nat → Prop, Both V w r1 g x M.R1 ∧ ∀ w' x' R', Past V r1 g x' R' w w' → Then U b r0 r1 g x' ⟨M.R0, R', M.now, M.many, M.room, M.age, M.down⟩ w w' := by
  obtain ⟨t0, t1, h⟩ := h
  refine ⟨fun j => (U j ∧ ¬ Rk.Bs r0 t0 j) ∧ j ≠ b, ⟨t1, os_other (os_row h.os h.a0) h.blk (by decide) (by decide) (by decide) (by decide), h.a1, fun j hj => ⟨⟨h.u1 j hj, fun e => h.sep j e hj⟩, fun e => at_ne h.a1 h.blk (e ▸ hj)⟩⟩, fun w' x' R' k => ?_⟩
  obtain ⟨⟨t1', k1, k2, k3⟩, k4⟩ := k
  have n0 : ∀ j, Rk.Bs r0 t0 j → ¬ ((U j ∧ ¬ Rk.Bs r0 t0 j) ∧ j ≠ b) := fun j hj hn => hn.1.2 hj
  refine ⟨⟨t0, t1', k1.mono fun j hj => hj.imp (fun h => h.1.1) id, h.a0.keeps k4 n0, k2, h.blk.keeps k4 fun hn => hn.2 rfl, fun j hj => .inl (h.u0 j hj), fun j hj => (k3 j hj).imp (fun h => h.1.1) id, .inl h.ub, fun j hj hn => ?_⟩, k4.mono fun j hj => .inl hj.1.1⟩
  rcases k3 j hn with hk | hk
  · exact hk.1.2 hj
  · have := h.a0.lt j hj; omega
/-- What is noted. -/
theorem Trio.note (h : Trio U w b r0 r1 g x M) (hb : Rw w' b TWl (M'.cells r0 r1)) (k : Keeps (fun j => j = b) w w') (e0 : M'.R0 = M.R0) (e1 : M'.R1 = M.R1) : Then U b r0 r1 g x M' w w' := by
  obtain ⟨t0, t1, h⟩ := h
  have ho := os_other h.os h.blk (by decide) (by decide) (by decide) (by decide)
  refine ⟨⟨t0, t1, (ho.keep k fun j hj => hj.2).mono fun j hj => .inl hj.1, ?_, ?_, hb, fun j hj => .inl (h.u0 j hj), fun j hj => .inl (h.u1 j hj), .inl h.ub, h.sep⟩, k.mono fun j hj => .inl (by rw [hj]; exact h.ub)⟩
  · rw [e0]; exact h.a0.keeps k fun j hj e => at_ne h.a0 h.blk (e ▸ hj)
  · rw [e1]; exact h.a1.keeps k fun j hj e => at_ne h.a1 h.blk (e ▸ hj)
end
end Go.Proofs.YtjlncjabiofklaaDoor.Wl
end
section
namespace Go.Proofs.YtjlncjabiofklaaDoor.Wl
open Go Go.RowKit Dv Rf Shf Rk
open Tal (Strs bas)
theorem drewN_below {B : Nat} {w0 w : World} (h : Below B w0 w) (m : Nat) : Below B w0 (w.drewN m) := ⟨h.os, h.tape, h.output, h.size, h.block⟩
set_option maxHeartbeats 1600000 in
theorem log_c (b r0 r1 : Nat) (M : Wm) (w : World) (h : Rw w b TWl (M.cells r0 r1)) (hn : M.now ≤ 1) : Calls Tryd.prog 20 #[.pointer (some ⟨b, 0, none⟩)] w fun e w' => e = .returned (.pointer (some ⟨M.r r0 r1, 0, none⟩)) ∧ ∃ n, w' = w.drewN n := by
  have c0 : w.cell? ⟨b, 0, none⟩ = some (.pointer (some ⟨r0, 0, none⟩)) := h.cell 0
  have c1 : w.cell? ⟨b, 1, none⟩ = some (.pointer (some ⟨r1, 0, none⟩)) := h.cell 1
  have c2 : w.cell? ⟨b, 2, none⟩ = some (.int .i64 (M.now : Int)) := h.cell 2
  clear h
  rcases (show M.now = 0 ∨ M.now = 1 by omega) with h0 | h0
  · rw [h0] at c2
    have HR : Hid (M.r r0 r1 = r0) := by show _ = _; unfold Wm.r; rw [if_pos h0]
    have c2 : w.cell? ⟨b, 2, none⟩ = some (.int .i64 0) := c2
    clear hn h0
    go_enter Tryd.func20, Tryd.ntmps20
    go_wp2_with fail
    go_quiet (fail)
    go_wp2_with fail
    go_ret
    rw [HR.out]
    exact ⟨rfl, _, rfl⟩
  · rw [h0] at c2
    have HR : Hid (M.r r0 r1 = r1) := by show _ = _; unfold Wm.r; rw [if_neg (by omega)]
    have c2 : w.cell? ⟨b, 2, none⟩ = some (.int .i64 1) := c2
    clear hn h0
    go_enter Tryd.func20, Tryd.ntmps20
    go_wp2_with fail
    go_quiet (fail)
    go_wp2_with fail
    go_ret
    rw [HR.out]
    exact ⟨rfl, _, rfl⟩
set_option maxHeartbeats 800000 in
theorem is_c (b r0 r1 : Nat) (M : Wm) (w : World) (h : Rw w b TWl (M.cells r0 r1)) (hn : M.now ≤ 1) : Calls Tryd.prog 25 #[.pointer (some ⟨b, 0, none⟩)] w fun e w' => e = .returned (.bool true) ∧ ∃ n, w' = w.drewN n := by
  have K := Lib.hid (log_c b r0 r1 M w h hn)
  clear h hn
  go_enter Tryd.func25, Tryd.ntmps25
  go_wp2_with fail
  refine K.out.mono ?_
  rintro e w' ⟨rfl, n, rfl⟩
  go_wp2_with fail
  go_ret
  exact ⟨rfl, n, rfl⟩
set_option maxHeartbeats 800000 in
theorem age_c (b r0 r1 : Nat) (M : Wm) (w : World) (h : Rw w b TWl (M.cells r0 r1)) (hn : M.now ≤ 1) : Calls Tryd.prog 24 #[.pointer (some ⟨b, 0, none⟩)] w fun e w' => e = .returned (.int .u64 (M.age : Int)) ∧ ∃ n, w' = w.drewN n := by
  have K := Lib.hid (is_c b r0 r1 M w h hn)
  have HC : Hid (∀ n, (w.drewN n).cell? ⟨b, 5, none⟩ = some (.int .u64 (M.age : Int))) := fun n => (show (w.drewN n).cell? ⟨b, 5, none⟩ = w.cell? ⟨b, 5, none⟩ by simp).trans (h.cell 5)
  clear h hn
  go_enter Tryd.func24, Tryd.ntmps24
  go_wp2_with fail
  refine K.out.mono ?_
  rintro e w' ⟨rfl, n, rfl⟩
  have c := HC.out n
  go_wp2_with fail
  go_ret
  exact ⟨rfl, n, rfl⟩
set_option maxHeartbeats 800000 in
theorem wroom_c (b r0 r1 : Nat) (M : Wm) (w : World) (h : Rw w b TWl (M.cells r0 r1)) (hn : M.now ≤ 1) : Calls Tryd.prog 15 #[.pointer (some ⟨b, 0, none⟩)] w fun e w' => e = .returned (.int .i64 (M.room : Int)) ∧ ∃ n, w' = w.drewN n := by
  have K := Lib.hid (is_c b r0 r1 M w h hn)
  have HC : Hid (∀ n, (w.drewN n).cell? ⟨b, 4, none⟩ = some (.int .i64 (M.room : Int))) := fun n => (show (w.drewN n).cell? ⟨b, 4, none⟩ = w.cell? ⟨b, 4, none⟩ by simp).trans (h.cell 4)
  clear h hn
  go_enter Tryd.func15, Tryd.ntmps15
  go_wp2_with fail
  refine K.out.mono ?_
  rintro e w' ⟨rfl, n, rfl⟩
  have c := HC.out n
  go_wp2_with fail
  go_ret
  exact ⟨rfl, n, rfl⟩
def Wm.noted (M : Wm) (many : Nat) : Wm := ⟨M.R0, M.R1, M.now, many, M.L.n - M.L.S.e, M.L.S.first, M.down⟩
theorem drewN_drewN (w : World) (m n : Nat) : (w.drewN m).drewN n = w.drewN (m + n) := by
  induction n with
  | zero => rfl
  | succ n ih => show ((w.drewN m).drewN n).drew = _; rw [ih]; rfl
set_option maxRecDepth 100000 in
set_option maxHeartbeats 3200000 in
theorem note_c (U : Nat → Prop) (b r0 r1 g : Nat) (x : Dr) (M : Wm) (many : Nat) (w : World) (h : Trio U w b r0 r1 g x M) (hn : M.now ≤ 1) (h0 : 0 < M.L.n) (h9 : M.L.n ≤ 100000) (he : M.L.S.e ≤ M.L.n) :
    Calls Tryd.prog 23 #[.pointer (some ⟨b, 0, none⟩), .int .i64 (many : Int)] w fun e w' => e = .returned (.tuple #[]) ∧ Then U b r0 r1 g x (M.noted many) w w' := by
  have H := Lib.hid h
  have KL : Hid (∀ n, Calls Tryd.prog 20 #[.pointer (some ⟨b, 0, none⟩)] (w.drewN n) fun e w' => e = .returned (.pointer (some ⟨M.r r0 r1, 0, none⟩)) ∧ ∃ m, w' = w.drewN m) := fun n => by
    obtain ⟨t0, t1, h⟩ := H.out.later (drewN_below (Below.refl _ w) n)
    exact (log_c b r0 r1 M _ h.blk hn).mono fun e w' hr => ⟨hr.1, by obtain ⟨m, rfl⟩ := hr.2; exact ⟨n + m, drewN_drewN w n m⟩⟩
  have KA : Hid (∀ n, ∃ tv, Rk.At (w.drewN n) (M.r r0 r1) g tv M.L) := fun n => by
    obtain ⟨t0, t1, h⟩ := H.out.later (drewN_below (Below.refl _ w) n)
    unfold Wm.r Wm.L
    by_cases h0 : M.now = 0
    · rw [if_pos h0, if_pos h0]; exact ⟨t0, h.a0⟩
    · rw [if_neg h0, if_neg h0]; exact ⟨t1, h.a1⟩
  have KR : Hid (∀ n, Calls Tryd.prog 37 #[.pointer (some ⟨M.r r0 r1, 0, none⟩)] (w.drewN n) fun e w' => e = .returned (.int .i64 ((M.L.n - M.L.S.e : Nat) : Int)) ∧ ∃ m, w' = w.drewN m) := fun n => by
    obtain ⟨tv, ha⟩ := KA.out n
    exact (room_c _ g tv M.L _ ha h0 h9 he).mono fun e w' hr => ⟨hr.1, by obtain ⟨m, rfl⟩ := hr.2; exact ⟨n + m, drewN_drewN w n m⟩⟩
  have KF : Hid (∀ n, Calls Tryd.prog 19 #[.pointer (some ⟨M.r r0 r1, 0, none⟩)] (w.drewN n) fun e w' => e = .returned (.int .u64 (M.L.S.first : Int)) ∧ w.drewN n = w') := fun n => by
    obtain ⟨tv, ha⟩ := KA.out n
    exact first_c _ g tv M.L _ ha h0
  have HW : Hid (∀ n, Rw (w.drewN n) b TWl (M.cells r0 r1)) := fun n => by
    obtain ⟨t0, t1, h⟩ := H.out.later (drewN_below (Below.refl _ w) n)
    exact h.blk
  have K0 : Hid (Calls Tryd.prog 20 #[.pointer (some ⟨b, 0, none⟩)] w fun e w' => e = .returned (.pointer (some ⟨M.r r0 r1, 0, none⟩)) ∧ ∃ m, w' = w.drewN m) := KL.out 0
  clear h hn h0 h9 he
  go_enter Tryd.func23, Tryd.ntmps23
  go_wp2_with fail
  refine K0.out.mono ?_
  rintro e w' ⟨rfl, n1, rfl⟩
  go_wp2_with fail
  refine (KR.out n1).mono ?_
  rintro e w' ⟨rfl, n2, rfl⟩
  go_wp2_with fail
  refine (KL.out n2).mono ?_
  rintro e w' ⟨rfl, n3, rfl⟩
  go_wp2_with fail
  refine (KF.out n3).mono ?_
  rintro e w' ⟨rfl, rfl⟩
  have hw := HW.out n3
  have c3 : (w.drewN n3).cell? ⟨b, 3, none⟩ = some (.int .i64 (M.many : Int)) := hw.cell 3
  have c4 : (w.drewN n3).cell? ⟨b, 4, none⟩ = some (.int .i64 (M.room : Int)) := hw.cell 4
  have c5 : (w.drewN n3).cell? ⟨b, 5, none⟩ = some (.int .u64 (M.age : Int)) := hw.cell 5
  have f3 := hw.frozen 3
  have f4 := hw.frozen 4
  have f5 := hw.frozen 5
  have HT : Hid (Then U b r0 r1 g x (M.noted many) w ((((w.drewN n3).setCell ⟨b, 3, none⟩ (.int .i64 (many : Int))).setCell ⟨b, 4, none⟩ (.int .i64 ((M.L.n - M.L.S.e : Nat) : Int))).setCell ⟨b, 5, none⟩ (.int .u64 (M.L.S.first : Int)))) := by
    have hd : Below w.heap.size w (w.drewN n3) := drewN_below (Below.refl _ w) n3
    refine (Then.refl H.out hd).trans (Trio.note (M' := M.noted many) (Then.refl H.out hd).1 (((hw.setCell 3 _).setCell 4 _).setCell 5 _) ?_ rfl rfl)
    exact (((Keeps.refl (fun j => j = b) (w.drewN n3)).setCell b 3 _ (.inl rfl)).setCell b 4 _ (.inl rfl)).setCell b 5 _ (.inl rfl)
  clear hw
  go_wp2_with fail
  go_end0
  exact ⟨rfl, HT.out⟩
end Go.Proofs.YtjlncjabiofklaaDoor.Wl
end
section
namespace Go.Proofs.YtjlncjabiofklaaDoor.Wl
open Go Go.RowKit Dv Rf Shf Rk
open Tal (Strs bas)
/-- The pieces of which a text is the list. -/
def parse (t : Rk.Sec) : Option (List Rk.Sec) := match Tal.takeRow t with
  | some (l, []) => some l
  | _ => none
/-- A list of strings in memory. -/
def Ls (w : World) (v : Value) (l : List Rk.Sec) : Prop := ∃ A cap, v = .slice A l.length cap ∧ l.length ≤ cap ∧ Strs w A (bas l) ∧ (A = none → cap = 0)
theorem Ls.later {w w' : World} {v : Value} {l : List Rk.Sec} (h : Ls w v l) (k : Below w.heap.size w w') : Ls w' v l := by
  obtain ⟨A, cap, h1, h2, h3, h4⟩ := h
  exact ⟨A, cap, h1, h2, h3.later k, h4⟩
theorem Ls.keeps {T : Nat → Prop} {w w' : World} {v : Value} {l : List Rk.Sec} (h : Ls w v l) (k : Keeps T w w') (hT : ∀ j, v.ownBlock = some j → ¬ T j) : Ls w' v l := by
  obtain ⟨A, cap, rfl, h2, h3, h4⟩ := h
  exact ⟨A, cap, rfl, h2, strs_keeps h3 k fun b off e => hT b (by rw [e]; rfl), h4⟩
def ReRes (l : List Rk.Sec) (w : World) (e : Ending) (w' : World) : Prop := ∃ v, e = .returned (.tuple #[v, .bool true]) ∧ Ls w' v l ∧ (∀ j, v.ownBlock = some j → w.heap.size ≤ j ∧ j < w'.heap.size) ∧ Below w.heap.size w w'
theorem slice_all (a : Option Addr) (n cap : Nat) (hc : n ≤ cap) (h0 : a = none → cap = 0) :
    ∃ a', (∀ u, (Instr.sliceAt 35 (.slice a n cap) none (some (.int .i64 (n : Int))) (some (.int .i64 (n : Int)))).run Tryd.prog u = .ok (.slice a' n n) u) ∧ (a' = none → n = 0) ∧ (∀ j, (Value.slice a' n n).ownBlock = some j → (Value.slice a n cap).ownBlock = some j) ∧ ∀ (L : List ByteArray) (w : World), L.length = n → Strs w a L → Strs w a' L := by
  refine ⟨if n = 0 then a else a.map (·.add (0 * 1)), fun u => ?_, fun h => ?_, fun j h => ?_, fun L w hl h j hj => ?_⟩
  · rw [run_sliceAt_slice _ _ _ _ _ _ und_strs, run_slice_hm _ _ _ _ _ und_strs .i64 .i64 (n : Int) (n : Int) (by omega) (by omega) (by omega)]
    rw [sz_str]
    simp [Result.andThen, sliced]
  · split at h
    · assumption
    · cases a with
      | none => have := h0 rfl; omega
      | some ad => simp at h
  · cases a with
    | none => simp [Value.ownBlock] at h
    | some ad => simpa [Value.ownBlock, Addr.add, apply_ite] using h
  · have hj' : j < L.length := hj
    obtain ⟨b, off, rfl, hb, hc'⟩ := h j hj'
    rw [if_neg (by omega)]
    exact ⟨b, off, by simp [Addr.add], hb, hc'⟩
set_option maxHeartbeats 1600000 in
theorem read_no (t : ByteArray) (w : World) (ht : t.size ≤ 1000000) (h : parse t.data.toList = none) : Calls Tryd.prog 22 #[.string t] w fun e w' => e = .returned (.tuple #[.slice none 0 0, .bool false]) ∧ Below w.heap.size w w' := by
  have K := Lib.hid (Tal.takeRow_c t w (by omega))
  cases ho : Tal.takeRow t.data.toList with
  | none =>
    rw [ho] at K
    clear h ho
    go_enter Tryd.func22, Tryd.ntmps22
    go_wp2_with fail
    refine K.out.mono ?_
    rintro e w1 ⟨v, rfl, hb, hv⟩
    obtain ⟨a, c, rfl⟩ := own_slice hv
    have HB := Lib.hid hb
    clear hb hv
    go_wp2_with fail
    go_ret2
    exact ⟨rfl, HB.out⟩
  | some z =>
    obtain ⟨l, r⟩ := z
    have hr : r ≠ [] := by
      rintro rfl
      unfold parse at h
      rw [ho] at h
      cases h
    rw [ho] at K
    have he1 : (!r.isEmpty) = true := by cases r with | nil => exact absurd rfl hr | cons => rfl
    have he2 : r.isEmpty = false := by cases r with | nil => exact absurd rfl hr | cons => rfl
    have K : Hid (Calls Tryd.prog 36 #[.string t] w fun e w' => ∃ v, e = .returned (.tuple #[v, .string ⟨r.toArray⟩, .bool true]) ∧ Below w.heap.size w w' ∧ w'.ownsRow w.heap.size TStr 1 v l.length (l.map sv)) := K.out
    clear h ho hr
    go_enter Tryd.func22, Tryd.ntmps22
    go_wp2_with fail
    refine K.out.mono ?_
    rintro e w1 ⟨v, rfl, hb, hv⟩
    obtain ⟨a, c, rfl⟩ := own_slice hv
    have HB := Lib.hid hb
    clear hb hv
    go_wp2_with fail
    go_ret2
    exact ⟨rfl, HB.out⟩
set_option maxHeartbeats 1600000 in
theorem read_yes (t : ByteArray) (l : List Rk.Sec) (w : World) (ht : t.size ≤ 1000000) (h : parse t.data.toList = some l) : Calls Tryd.prog 22 #[.string t] w (ReRes l w) := by
  have K0 := Lib.hid (Tal.takeRow_c t w (by omega))
  have ho : Tal.takeRow t.data.toList = some (l, []) := by
    unfold parse at h
    split at h
    · rename_i l' ho
      cases h
      exact ho
    · cases h
  have hl9 : l.length ≤ 1000000 := by
    have := (Tal.takeRow_once _ _ _ ho).2
    have e : t.data.toList.length = t.size := by simp
    omega
  rw [ho] at K0
  have K : Hid (Calls Tryd.prog 36 #[.string t] w fun e w' => ∃ v, e = .returned (.tuple #[v, .string ⟨#[]⟩, .bool true]) ∧ Below w.heap.size w w' ∧ w'.ownsRow w.heap.size TStr 1 v l.length (l.map sv)) := K0.out
  clear h ho K0
  go_enter Tryd.func22, Tryd.ntmps22
  go_wp2_with fail
  refine K.out.mono ?_
  rintro e w1 ⟨v, rfl, hb, hv⟩
  obtain ⟨A, cap, rfl, hcap, hs, h0, hA⟩ := Ow.form (b := w.heap.size) (L := l) hv
  have hlt := hv.lt
  obtain ⟨a', hsl, h0', hown, hst⟩ := slice_all A l.length cap hcap h0
  have HB := Lib.hid hb
  have HL : Hid (Ls w1 (.slice a' l.length l.length) l) := ⟨a', l.length, rfl, Nat.le_refl _, hst (bas l) w1 (bas_len l) hs, h0'⟩
  have HLT : Hid (∀ j, (Value.slice a' l.length l.length).ownBlock = some j → w.heap.size ≤ j ∧ j < w1.heap.size) := fun j hj => hlt j (hown j hj)
  have hsl2 := hsl w1
  clear hb hv hs h0 hA hlt hsl h0' hown hst
  go_wp2_with fail
  go_ret2
  exact ⟨_, rfl, HL.out, HLT.out, HB.out⟩
end Go.Proofs.YtjlncjabiofklaaDoor.Wl
end
section
namespace Go.Proofs.YtjlncjabiofklaaDoor.Wl
open Go Go.RowKit Dv Rf Shf Rk
open Tal (Strs bas)
abbrev TLs : TypeId := 35
theorem infoLs : (Tryd.prog.info? TLs).map (fun i => (i.zero, i.size, i.bytes)) = some (some (.slice none 0 0), 1, 24) := by kernel_rfl
/-- A list of lists of strings of one's own. -/
structure LssV (base : Nat) (w : World) (v : Value) (LL : List (List Rk.Sec)) (vs : List Value) : Prop where
  len : vs.length = LL.length
  own : w.ownsRow base TLs 1 v LL.length vs
  ls : ∀ (i : Nat) (u : Value) (l : List Rk.Sec), vs[i]? = some u → LL[i]? = some l → Ls w u l
  blk : ∀ u ∈ vs, ∀ j, u.ownBlock = some j → base ≤ j ∧ j < w.heap.size ∧ v.ownBlock ≠ some j
def Lss (base : Nat) (w : World) (v : Value) (LL : List (List Rk.Sec)) : Prop := ∃ vs, LssV base w v LL vs
theorem LssV.later {base : Nat} {w w' : World} {v : Value} {LL : List (List Rk.Sec)} {vs : List Value} (h : LssV base w v LL vs) (k : Below w.heap.size w w') : LssV base w' v LL vs :=
  ⟨h.len, own_later h.own k, fun i u l hu hl => (h.ls i u l hu hl).later k, fun u hu j hj => ⟨(h.blk u hu j hj).1, Nat.lt_of_lt_of_le (h.blk u hu j hj).2.1 k.size, (h.blk u hu j hj).2.2⟩⟩
theorem Lss.later {base : Nat} {w w' : World} {v : Value} {LL : List (List Rk.Sec)} (h : Lss base w v LL) (k : Below w.heap.size w w') : Lss base w' v LL := by
  obtain ⟨vs, h⟩ := h
  exact ⟨vs, h.later k⟩
theorem Lss.lower {base base' : Nat} {w : World} {v : Value} {LL : List (List Rk.Sec)} (h : Lss base w v LL) (hb : base' ≤ base) : Lss base' w v LL := by
  obtain ⟨vs, h⟩ := h
  exact ⟨vs, h.len, own_lower h.own hb, h.ls, fun u hu j hj => ⟨Nat.le_trans hb (h.blk u hu j hj).1, (h.blk u hu j hj).2⟩⟩
/-- One list more. -/
theorem LssV.push {base : Nat} {w w3 : World} {v v' u : Value} {o : Obj} {LL : List (List Rk.Sec)} {l : List Rk.Sec} {vs : List Value} (h : LssV base w v LL vs) (hu : Ls w u l) (hf : ∀ j, u.ownBlock = some j → base ≤ j ∧ j < w.heap.size ∧ v.ownBlock ≠ some j)
    (ho : w3.ownsRow base TLs 1 v' (LL.length + 1) (vs ++ [u])) (hg : (w.alloc o).grownBy w3 v.ownBlock) (hat : v'.ownBlock = v.ownBlock ∨ v'.ownBlock = some (w.heap.size + 1)) : LssV base w3 v' (LL ++ [l]) (vs ++ [u]) := by
  have k : Keeps (fun j => v.ownBlock = some j) w w3 := ((Keeps.refl _ w).alloc o).grown hg fun j hj => .inl hj
  have e : (LL ++ [l]).length = LL.length + 1 := by simp
  have hk : ∀ z ∈ vs ++ [u], ∀ j, z.ownBlock = some j → base ≤ j ∧ j < w.heap.size ∧ v.ownBlock ≠ some j := fun z hz => by
    rcases List.mem_append.1 hz with hz | hz
    · exact h.blk z hz
    · simp at hz
      subst hz
      exact hf
  have hls : ∀ z ∈ vs ++ [u], ∀ m, Ls w z m → Ls w3 z m := fun z hz m hm => hm.keeps k fun j hj hv => (hk z hz j hj).2.2 hv
  refine ⟨by simp [h.len], by rw [e]; exact ho, fun i z m hz hm => ?_, fun z hz j hj => ?_⟩
  · refine hls z (List.mem_of_getElem? hz) m ?_
    have hl := h.len
    by_cases hi : i < LL.length
    · rw [List.getElem?_append_left (by omega)] at hz
      rw [List.getElem?_append_left hi] at hm
      exact h.ls i z m hz hm
    · rw [List.getElem?_append_right (by omega)] at hz
      rw [List.getElem?_append_right (by omega)] at hm
      have e0 : i - LL.length = 0 := by
        rcases Nat.eq_zero_or_pos (i - LL.length) with h' | h'
        · exact h'
        · rw [List.getElem?_eq_none (by simp; omega)] at hm; cases hm
      rw [e0] at hm
      rw [hl, e0] at hz
      cases hm
      cases hz
      exact hu
  · obtain ⟨p1, p2, p3⟩ := hk z hz j hj
    refine ⟨p1, Nat.lt_of_lt_of_le p2 k.size, fun e => ?_⟩
    rcases hat with ha | ha
    · exact p3 (ha ▸ e)
    · rw [ha] at e; cases e; omega
def TsRes (LL : List (List Rk.Sec)) (w : World) (e : Ending) (w' : World) : Prop := ∃ v, e = .returned v ∧ Lss w.heap.size w' v LL ∧ Below w.heap.size w w'
set_option maxRecDepth 100000 in
set_option maxHeartbeats 3200000 in
theorem txns_c (U : Nat → Prop) (b r0 r1 g : Nat) (x : Dr) (M : Wm) (w : World) (LL : List (List Rk.Sec)) (h : Trio U w b r0 r1 g x M) (hn : M.now ≤ 1) (h0 : 0 < M.L.n) (hT : M.L.S.T.length ≤ 10000) (hm : M.many ≤ M.L.S.T.length) (hLL : LL.length = M.many)
    (ht : ∀ t ∈ M.L.S.T, t.length ≤ 98304) (hp : ∀ i (h : i < LL.length) (h' : i < M.L.S.T.length), parse M.L.S.T[i] = some LL[i]) :
    Calls Tryd.prog 8 #[.pointer (some ⟨b, 0, none⟩)] w (TsRes LL w) := by
  have H := Lib.hid h
  obtain ⟨i0, hi, hz0, hz1, hz2⟩ := info_parts infoLs
  have HW : Hid (∀ u, Below w.heap.size w u → Rw u b TWl (M.cells r0 r1)) := fun u hu => by
    obtain ⟨t0, t1, h⟩ := H.out.later hu
    exact h.blk
  have KL : Hid (∀ u, Below w.heap.size w u → Calls Tryd.prog 20 #[.pointer (some ⟨b, 0, none⟩)] u fun e w' => e = .returned (.pointer (some ⟨M.r r0 r1, 0, none⟩)) ∧ Below w.heap.size w w') := fun u hu =>
    (log_c b r0 r1 M u (HW.out u hu) hn).mono fun e w' hr => ⟨hr.1, by obtain ⟨m, rfl⟩ := hr.2; exact drewN_below hu m⟩
  have KI : Hid (Calls Tryd.prog 25 #[.pointer (some ⟨b, 0, none⟩)] w fun e w' => e = .returned (.bool true) ∧ Below w.heap.size w w') :=
    (is_c b r0 r1 M w (HW.out w (Below.refl _ _)) hn).mono fun e w' hr => ⟨hr.1, by obtain ⟨m, rfl⟩ := hr.2; exact drewN_below (Below.refl _ _) m⟩
  have KX : Hid (∀ u, Below w.heap.size w u → Calls Tryd.prog 21 #[.pointer (some ⟨M.r r0 r1, 0, none⟩)] u fun e w' => ∃ A cap, e = .returned (.slice A M.L.S.T.length cap) ∧ M.L.S.T.length ≤ cap ∧ (A = none → cap = 0) ∧ Strs w' A (bas M.L.S.T) ∧ (∀ g off, A = some ⟨g, off, none⟩ → w.heap.size ≤ g) ∧ Below w.heap.size w w') := fun u hu => by
    obtain ⟨t0, t1, h⟩ := H.out.later hu
    have ha : ∃ tv, Rk.At u (M.r r0 r1) g tv M.L := by
      unfold Wm.r Wm.L
      by_cases h0 : M.now = 0
      · rw [if_pos h0, if_pos h0]; exact ⟨t0, h.a0⟩
      · rw [if_neg h0, if_neg h0]; exact ⟨t1, h.a1⟩
    obtain ⟨tv, ha⟩ := ha
    refine (texts_c _ g tv M.L u ha h0 (by omega)).mono fun e w' hr => ?_
    obtain ⟨v, rfl, hv, hb⟩ := hr
    obtain ⟨A, cap, rfl, h1, h2, h3, h4⟩ := Ow.form (b := u.heap.size) (L := M.L.S.T) hv
    exact ⟨A, cap, rfl, h1, h3, h2, fun g off e => Nat.le_trans hu.size (hv.lt g (h4 g off e).2).1, hu.trans (hb.mono hu.size)⟩
  have HP := Lib.hid hp
  have HTL := Lib.hid ht
  obtain ⟨T, hTe⟩ : ∃ T, T = M.L.S.T := ⟨_, rfl⟩
  rw [← hTe] at KX HP HTL hT hm
  have HC : Hid (∀ u, Below w.heap.size w u → u.cell? ⟨b, 3, none⟩ = some (.int .i64 (M.many : Int))) := fun u hu => (HW.out u hu).cell 3
  obtain ⟨k9, hk9⟩ : ∃ k9, k9 = M.many := ⟨_, rfl⟩
  rw [← hk9] at HC hm hLL
  have HLL := Lib.hid hLL
  clear h hn h0 ht hp hTe hk9 hLL
  go_enter Tryd.func8, Tryd.ntmps8
  go_wp2_with fail
  refine KI.out.mono ?_
  rintro e w1 ⟨rfl, hb⟩
  have HB1 := Lib.hid hb
  clear hb
  go_wp2_with fail
  have HB1d : Hid (Below w.heap.size w w1.drew) := HB1.out.drew
  have q0 : (0 : Int) ≤ (k9 : Int) := by omega
  have q1 : (k9 : Int) ≤ (T.length : Int) := by omega
  have cc := HC.out _ HB1d.out
  go_region_held3 (fun u => u.cell? ⟨b, 3, none⟩ = some (.int .i64 (k9 : Int))) (go_keep) ((first | (go_at_call 20; refine (KL.out _ HB1d.out).mono ?_; rintro e w2 ⟨rfl, hb⟩; have HB2 := Lib.hid hb; have c2' := HC.out _ hb; clear hb) | (go_at_call 21; refine (KX.out _ HB2.out).mono ?_; rintro e w3 ⟨A3, cap3, rfl, h31, h32, h33, h34, hb⟩; have HB3 := Lib.hid hb; have c3' := HC.out _ hb; have HS3 := Lib.hid h33; obtain ⟨a4, c4, hsl4, h40, hst4⟩ := slice_to A3 T.length cap3 k9 hm h31 h32; have HS4 := Lib.hid (hst4 (bas T) w3 (bas_len T) h33); clear hb h33 hst4)))
  have hk9 : k9 ≤ 10000 := by omega
  clear cc c2' c3' h31 h32 h34
  go_wp2_with fail
  go_loopg [3, 20] k9 (fun kx s3 s20 wr => ∃ (i : Nat) (vv : Value), s20 = .int .i64 (i : Int) ∧ vv = s3 ∧ i ≤ k9 ∧ Hid (Lss w3.heap.size wr vv (LL.take i)) ∧ Hid (Below w.heap.size w wr) ∧ Hid (Below w3.heap.size w3 wr) ∧ k9 ≤ i + kx)
  case atStart => exact ⟨0, _, rfl, rfl, Nat.zero_le _, ⟨[], rfl, World.ownsRow_nil _ _ _ _, fun i u l hu _ => (by simp at hu), fun u hu => (by cases hu)⟩, HB3, Below.refl _ _, by omega⟩
  case round =>
    obtain ⟨i, vv, rfl, hvv, hi9, HL, HB, HB4, hkx⟩ := hrel
    have hlk : (LL.take i).length = i := by rw [List.length_take, HLL.out]; omega
    have hsh : ∃ a c, vv = Value.slice a i c := by
      obtain ⟨vs, hvs⟩ := HL.out
      have := own_slice hvs.own
      rwa [hlk] at this
    obtain ⟨a9, c9, rfl⟩ := hsh
    subst hvv
    by_cases hlt : i < k9
    · obtain ⟨bb, off, rfl, hbl, hc⟩ := (HS4.out.later HB4.out) i (by rw [List.length_take, bas_len]; omega)
      have e1 : ((bas T).take k9)[i]'(by rw [List.length_take, bas_len]; omega) = ⟨(T[i]'(by omega)).toArray⟩ := by simp [bas]
      rw [e1] at hc
      have hpi := HP.out i (by rw [HLL.out]; exact hlt) (by omega)
      have htl := HTL.out _ (List.getElem_mem (show i < T.length by omega))
      obtain ⟨t, hte⟩ : ∃ t, t = (⟨(T[i]'(by omega)).toArray⟩ : ByteArray) := ⟨_, rfl⟩
      have hts : t.data.toList = T[i]'(by omega) := by rw [hte]
      obtain ⟨l, hle⟩ : ∃ l, l = LL[i]'(by rw [HLL.out]; exact hlt) := ⟨_, rfl⟩
      rw [← hte] at hc
      rw [← hle, ← hts] at hpi
      have KR := Lib.hid (read_yes t l wr (by rw [hte]; show (T[i]'(by omega)).length ≤ _; omega) hpi)
      have HTK : Hid (LL.take (i + 1) = LL.take i ++ [l]) := by show _ = _; rw [List.take_succ_eq_append_getElem (by rw [HLL.out]; exact hlt), ← hle]
      have HLK := Lib.hid hlk
      have j0 : (0 : Int) ≤ (i : Int) := by omega
      have j1 : (i : Int) < (k9 : Int) := by omega
      have hs0 := HB.out.size
      have hs04 := HB4.out.size
      clear e1 hpi htl hte hts hle hlk hbl
      go_wp2_with fail
      refine KR.out.mono ?_
      rintro e w5 ⟨v, rfl, hv, hvo, hb⟩
      obtain ⟨vs, hvs⟩ := HL.out
      have hlt3 := hvs.own.lt
      have HV5 := Lib.hid (hvs.later hb)
      have G2 : Hid (w5.ownsRow w3.heap.size TLs 1 (.slice a9 i c9) i vs) := by have := HV5.out.own; rwa [HLK.out] at this
      have HB5 : Hid (Below w.heap.size w w5) := HB.out.trans (hb.mono hs0)
      have HB54 : Hid (Below w3.heap.size w3 w5) := HB4.out.trans (hb.mono HB4.out.size)
      have hs5 := HB5.out.size
      have hs54 := HB54.out.size
      have HV := Lib.hid hv
      have HVO := Lib.hid (fun j hj => (⟨Nat.le_trans hs04 (hvo j hj).1, (hvo j hj).2, fun e => by have := (hlt3 j e).2; have := (hvo j hj).1; omega⟩ : w3.heap.size ≤ j ∧ j < w5.heap.size ∧ (Value.slice a9 i c9).ownBlock ≠ some j))
      obtain ⟨a7, c7, rfl, _, _, _⟩ := hv
      clear hvo hb hvs hlt3 KR HL hc
      go_wp2_with (at_builtin; refine wpList_append_own_at _ rfl _ _ 38 rfl w3.heap.size TLs i0 (.slice none 0 0) 1 24 Tryd.underlying38 hi hz0 hz1 hz2 rfl (by decide) _ _ _ rfl (G2.out.alloc _) ⟨w5.heap.size, 0, none⟩ 1 1 [.slice a7 l.length c7] rfl rfl (one_new' _ _ _) (by simp [Value.oneCell']) (by unfold maxLen; omega) (by omega) (by simp; omega) ?_)
      intro v' w6 hown hgrow hnil hat
      obtain ⟨a8, c8, rfl⟩ := own_slice hown
      have HB6 : Hid (Below w.heap.size w w6) := (HB5.out.alloc hs5 _).grown hgrow (by simp; omega) (fun j hj => Nat.le_trans HB3.out.size (G2.out.lt j hj).1)
      have HB64 : Hid (Below w3.heap.size w3 w6) := (HB54.out.alloc HB54.out.size _).grown hgrow (by have := HB54.out.size; simp; omega) (fun j hj => (G2.out.lt j hj).1)
      have HL6 : Hid (Lss w3.heap.size w6 (.slice a8 (i + 1) c8) (LL.take (i + 1))) := by
        show Lss _ _ _ _
        rw [HTK.out]
        exact ⟨_, HV5.out.push HV.out HVO.out (by rw [HLK.out]; exact hown) hgrow (by simpa using hat)⟩
      clear hown hgrow hnil hat
      go_wp2_with fail
      go_roundg (k9 - (i + 1))
      case measure => omega
      case rel => exact ⟨i + 1, _, by simp, rfl, by omega, HL6, HB6, HB64, by omega⟩
    · obtain rfl : i = k9 := by omega
      have HL9 : Hid (Lss w3.heap.size wr (.slice a9 i c9) LL) := by have := HL.out; rwa [show LL.take i = LL by rw [← HLL.out, List.take_length]] at this
      clear hkx hlt hi9 HL
      go_wp2_with fail
      go_ret
      exact ⟨_, rfl, HL9.out.lower HB3.out.size, HB.out⟩
end Go.Proofs.YtjlncjabiofklaaDoor.Wl
end
section
namespace Go.Proofs.YtjlncjabiofklaaDoor.Wl
open Go Go.RowKit Dv Rf Shf Rk
open Tal (Strs bas)
/-- A half, and another in its place. -/
def Wm.half (M : Wm) (k : Nat) : Rm := if k = 0 then M.R0 else M.R1
def Wm.put (M : Wm) (k : Nat) (R : Rm) : Wm := if k = 0 then ⟨R, M.R1, M.now, M.many, M.room, M.age, M.down⟩ else ⟨M.R0, R, M.now, M.many, M.room, M.age, M.down⟩
def Wm.fall (M : Wm) : Wm := ⟨M.R0, M.R1, M.now, M.many, M.room, M.age, true⟩
def Wm.turn (M : Wm) (k : Nat) : Wm := ⟨M.R0, M.R1, k, M.many, M.room, M.age, M.down⟩
def Wm.top (M : Wm) : Nat := max M.R0.top M.R1.top
/-- What follows an answer: the log turns to the half, or the log is down. -/
def Wm.after (M : Wm) (k many : Nat) (z : Int) : Wm := if z = 0 then (M.turn k).noted many else if z = 30 then M.fall else M
/-- The act on the half, and the sync behind it. -/
def wrHalf (M : Wm) (x : Dr) (k many p : Nat) (t : List UInt8) : Wm × Dr × Int :=
  let q := putM (M.half k) x p (M.top + 1) t
  if q.2.2 = 0 then (((M.put k q.1).after k many q.2.1.sync.2), q.2.1.sync.1, q.2.1.sync.2) else ((M.put k q.1).after k many q.2.2, q.2.1, q.2.2)
def wrM (M : Wm) (x : Dr) (l : List Rk.Sec) (k many : Nat) (fresh : Bool) : Wm × Dr × Int :=
  if M.down = true then (M, x, 30) else if l.all (fun p => decide (p.length ≤ 60000)) = false then (M, x, 3) else
  if 98304 < (Tal.row (bas l)).length then (M, x, 3) else if 9223372036854775807 ≤ M.top then (M, x, 6) else
  wrHalf M x k many (if fresh then 0 else (M.half k).S.e) (Tal.row (bas l))
/-- Either half and the drive, beside the other. -/
theorem Trio.half {U : Nat → Prop} {w : World} {b r0 r1 g : Nat} {x : Dr} {M : Wm} (h : Trio U w b r0 r1 g x M) (k : Nat) : ∃ V : Nat → Prop, Both V w (if k = 0 then r0 else r1) g x (M.half k) ∧ ∀ w' x' R', Past V (if k = 0 then r0 else r1) g x' R' w w' → Then U b r0 r1 g x' (M.put k R') w w' := by
  unfold Wm.half Wm.put
  by_cases hk : k = 0
  · simp only [hk, if_pos]
    exact h.half0
  · simp only [if_neg hk]
    exact h.half1
/-- The log is down. -/
theorem Trio.fell {U : Nat → Prop} {w : World} {b r0 r1 g : Nat} {x : Dr} {M : Wm} (h : Trio U w b r0 r1 g x M) : Then U b r0 r1 g x M.fall w (w.setCell ⟨b, 6, none⟩ (.bool true)) := by
  have hb := h
  obtain ⟨t0, t1, hv⟩ := hb
  exact h.note (M' := M.fall) (hv.blk.setCell 6 _) ((Keeps.refl (fun j => j = b) w).setCell b 6 _ (.inl rfl)) rfl rfl
/-- The log turns to a half. -/
theorem Trio.turned {U : Nat → Prop} {w : World} {b r0 r1 g : Nat} {x : Dr} {M : Wm} (h : Trio U w b r0 r1 g x M) (k : Nat) : Then U b r0 r1 g x (M.turn k) w (w.setCell ⟨b, 2, none⟩ (.int .i64 (k : Int))) := by
  have hb := h
  obtain ⟨t0, t1, hv⟩ := hb
  exact h.note (M' := M.turn k) (hv.blk.setCell 2 _) ((Keeps.refl (fun j => j = b) w).setCell b 2 _ (.inl rfl)) rfl rfl
/-- The drive's sync, beside both rows. -/
theorem Trio.synced {U : Nat → Prop} {w : World} {b r0 r1 g : Nat} {x x' : Dr} {M : Wm} (h : Trio U w b r0 r1 g x M) (hx : x.Ok) (hP : x.P.length ≤ 100000) (z : Int) (hz : x.sync = (x', z)) :
    Calls Tryd.prog 40 #[.pointer (some ⟨g, 0, none⟩)] w fun e w' => e = .returned (.int .i64 z) ∧ Then U b r0 r1 g x' M w w' := by
  obtain ⟨V, h1, h2⟩ := h.half0
  exact (h1.sync hx hP z hz).mono fun e w' hr => ⟨hr.1, h2 w' x' M.R0 hr.2⟩
end Go.Proofs.YtjlncjabiofklaaDoor.Wl
end
