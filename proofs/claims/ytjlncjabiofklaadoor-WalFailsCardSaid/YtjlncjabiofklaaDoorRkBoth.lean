/- Package row: a row and its drive in memory, side by side; what a put does. -/
import Derived.Test.YtjlncjabiofklaaDoorRkOpen
namespace Go.Proofs.YtjlncjabiofklaaDoor.Rk
open Go Go.RowKit Dv Rf Shf
open Tal (Strs bas)
/-- How many of some writes a fuse lets through; what is left of it. -/
def through (F : Option Nat) (k : Nat) : Nat := match F with | none => k | some m => min k m
def rest (F : Option Nat) (k : Nat) : Option Nat := match F with | none => none | some m => some (m - k)
theorem through_le (F : Option Nat) (k : Nat) : through F k ≤ k := by unfold through; split <;> omega
theorem burn_go {F : Option Nat} {j k : Nat} (h : j < through F k) : burn (rest F j) = some (rest F (j + 1)) := by
  cases F with
  | none => rfl
  | some m =>
    have hm : j < min k m := h
    unfold rest
    obtain ⟨d, hd⟩ : ∃ d, m - j = d + 1 := ⟨m - j - 1, by omega⟩
    show burn (some (m - j)) = some (some (m - (j + 1)))
    rw [hd, show m - (j + 1) = d by omega]
    rfl
theorem burn_stop {F : Option Nat} {j k : Nat} (h : j = through F k) (hk : j < k) : burn (rest F j) = none ∧ rest F j = some 0 := by
  cases F with
  | none => have : j = k := h; omega
  | some m =>
    have hm : j = min k m := h
    unfold rest
    show burn (some (m - j)) = none ∧ some (m - j) = some 0
    rw [show m - j = 0 by omega]
    exact ⟨rfl, rfl⟩
theorem rest_0 (F : Option Nat) : rest F 0 = F := by cases F <;> rfl
/-- A drive behind some writes. -/
def drv (x : Dr) (q : Nat) (B : List Sec) : Dr := ⟨x.D, x.P ++ ws q B, rest x.F B.length⟩
theorem drv_nil (x : Dr) (q : Nat) : drv x q [] = x := by unfold drv; show (⟨_, _, rest x.F 0⟩ : Dr) = _; rw [rest_0]; simp [ws]
theorem pad_id {b : Sec} (h : b.length = 64) : pad b = b := by unfold pad; rw [h]; simp
theorem drv_write (x : Dr) (q : Nat) (B : List Sec) (b : Sec) (hb : b.length = 64) (hq : q + B.length < x.D.length) (hF : burn (rest x.F B.length) = some (rest x.F (B.length + 1))) : (drv x q B).write ((q + B.length : Nat) : Int) b = (drv x q (B ++ [b]), 0) := by
  unfold Dr.write
  rw [if_neg (by unfold drv; simp only; omega), if_neg (by omega)]
  unfold drv
  simp only [hF]
  rw [ws_snoc, pad_id hb, Int.toNat_natCast]
  simp
theorem drv_stop (x : Dr) (q : Nat) (B : List Sec) (b : Sec) (hb : b.length = 64) (hq : q + B.length < x.D.length) (hF : burn (rest x.F B.length) = none) : (drv x q B).write ((q + B.length : Nat) : Int) b = (drv x q B, 30) := by
  unfold Dr.write
  rw [if_neg (by unfold drv; simp only; omega), if_neg (by omega)]
  have : burn (drv x q B).F = none := hF
  rw [this]
/-- What a put does. -/
def putM (R : Rm) (x : Dr) (p n : Nat) (t : List UInt8) : Rm × Dr × Int :=
  if R.down = true then (R, x, 30) else if n ≤ R.top then (R, x, 2) else if 98304 < t.length then (R, x, 3) else
  if R.n < p + Sf.many t.length then (R, x, 6) else
  if through x.F (Sf.many t.length) = Sf.many t.length then (⟨R.f, R.n, (if p = 0 then Ld.zero else R.S).took n t (Sf.many t.length), n, false⟩, drv x (R.f + p) (Sf.sheaf n t), 0)
  else (⟨R.f, R.n, R.S, R.top, true⟩, drv x (R.f + p) ((Sf.sheaf n t).take (through x.F (Sf.many t.length))), 30)
/-- The drive's blocks, as they are told by their types. -/
theorem os_row {U : Nat → Prop} {w : World} {r g : Nat} {tv : Value} {R : Rm} {x : Dr} (h : Dv.Os U w g x) (k : At w r g tv R) : Dv.Os (fun j => U j ∧ ¬ Bs r tv j) w g x := by
  obtain ⟨bv, bd, pv, fv, h1, h2⟩ := h
  refine ⟨bv, bd, pv, fv, h1, fun j hj => ⟨h2 j hj, ?_⟩⟩
  have hb := k.blk
  have ht := k.t
  rintro (rfl | e)
  · rcases hj with rfl | rfl | rfl | hj | hj
    · exact Rw.type hb h1.blk (by decide) rfl
    · exact Rw.type hb h1.v (by decide) rfl
    · exact Rw.type hb h1.d (by decide) rfl
    · exact own_type h1.p hb (by decide) hj
    · rcases h1.f with ⟨_, rfl⟩ | ⟨b, n, _, rfl, h3⟩
      · cases hj
      · cases hj; exact Rw.type hb h3 (by decide) rfl
  · rcases hj with rfl | rfl | rfl | hj | hj
    · exact own_type ht h1.blk (by decide) e
    · exact own_type ht h1.v (by decide) e
    · exact own_type ht h1.d (by decide) e
    · rcases ht.2 with ⟨rfl, _⟩ | ⟨g1, cap1, cur1, rfl, _, hb1, _⟩
      · simp [Value.ownBlock] at e
      · have e' : g1 = j := by simpa [Value.ownBlock] using e
        subst e'
        exact own_type h1.p (show Rw w g1 TStr cur1.toList from by unfold Rw; simpa using hb1) (by decide) hj
    · rcases h1.f with ⟨_, rfl⟩ | ⟨b, n, _, rfl, h3⟩
      · cases hj
      · cases hj; exact own_type ht h3 (by decide) e
/-- A row and its drive, their blocks in a set. -/
def Both (U : Nat → Prop) (w : World) (r g : Nat) (x : Dr) (R : Rm) : Prop := ∃ tv, Dv.Os U w g x ∧ At w r g tv R ∧ ∀ j, Bs r tv j → U j
/-- What an operation leaves of both. -/
def Past (U : Nat → Prop) (r g : Nat) (x : Dr) (R : Rm) (w w' : World) : Prop := Both (fun j => U j ∨ w.heap.size ≤ j) w' r g x R ∧ Keeps U w w'
section
variable {U T : Nat → Prop} {w w' w'' : World} {r g : Nat} {x x' : Dr} {R R' : Rm}
theorem Both.mono (h : Both U w r g x R) (hU : ∀ j, U j → T j) : Both T w r g x R := by
  obtain ⟨tv, h1, h2, h3⟩ := h
  exact ⟨tv, h1.mono hU, h2, fun j hj => hU j (h3 j hj)⟩
theorem Both.lt (h : Both U w r g x R) : Both (fun j => U j ∧ j < w.heap.size) w r g x R := by
  obtain ⟨tv, h1, h2, h3⟩ := h
  exact ⟨tv, h1.lt, h2, fun j hj => ⟨h3 j hj, h2.lt j hj⟩⟩
theorem Both.keep (h : Both U w r g x R) (k : Keeps T w w') (hd : ∀ j, U j → ¬ T j) : Both U w' r g x R := by
  obtain ⟨tv, h1, h2, h3⟩ := h
  exact ⟨tv, h1.keep k hd, h2.keeps k fun j hj => hd j (h3 j hj), h3⟩
theorem Both.later (h : Both U w r g x R) (k : Below w.heap.size w w') : Both U w' r g x R := h.keep (Keeps.of (fun _ => False) k) fun _ _ h => h
theorem Past.refl (h : Both U w r g x R) (k : Below w.heap.size w w') : Past U r g x R w w' := ⟨(h.later k).mono fun _ hj => .inl hj, Keeps.of _ k⟩
theorem Past.trans (h : Past U r g x R w w') (k : Past (fun j => U j ∨ w.heap.size ≤ j) r g x' R' w' w'') : Past U r g x' R' w w'' :=
  ⟨k.1.mono fun j hj => by
    rcases hj with hj | hj
    · exact hj
    · exact .inr (Nat.le_trans h.2.size hj), h.2.then k.2 fun j hj => hj⟩
/-- What is done to the row alone. -/
theorem Both.row {tv : Value} (h1 : Dv.Os U w g x) (h2 : At w r g tv R) (h3 : ∀ j, Bs r tv j → U j) (k : Left r g tv R' w w') : Past U r g x R' w w' := by
  obtain ⟨tv', k1, k2, k3⟩ := k
  refine ⟨⟨tv', ?_, k1, fun j hj => (k3 j hj).imp (h3 j) id⟩, k2.mono fun j hj => .inl (h3 j hj)⟩
  exact ((os_row h1 h2).keep k2 fun j hj => hj.2).mono fun j hj => .inl hj.1
/-- What is done to the drive alone. -/
theorem Both.write (h : Both U w r g x R) (hx : x.Ok) (hP : x.P.length ≤ 100000) (n : Int) (s : ByteArray) (hs : s.size ≤ 9223372036854775807) (z : Int) (hz : x.write n s.data.toList = (x', z)) :
    Calls Tryd.prog 55 #[.pointer (some ⟨g, 0, Option.none⟩), .int .i64 n, .string s] w fun e w' => e = .returned (.int .i64 z) ∧ Past U r g x' R w w' := by
  obtain ⟨tv, h1, h2, h3⟩ := h
  refine (os_write (os_row h1 h2) hx hP n s hs z hz).mono fun e w' hr => ⟨hr.1, ?_⟩
  obtain ⟨k1, k2⟩ := hr.2
  exact ⟨⟨tv, k1.mono fun j hj => hj.imp (fun h => h.1) id, h2.keeps k2 fun j hj hn => hn.2 hj, fun j hj => .inl (h3 j hj)⟩, k2.mono fun j hj => .inl hj.1⟩
/-- The drive's operations beside a row. -/
theorem Both.sync (h : Both U w r g x R) (hx : x.Ok) (hP : x.P.length ≤ 100000) (z : Int) (hz : x.sync = (x', z)) : Calls Tryd.prog 40 #[.pointer (some ⟨g, 0, Option.none⟩)] w fun e w' => e = .returned (.int .i64 z) ∧ Past U r g x' R w w' := by
  obtain ⟨tv, h1, h2, h3⟩ := h
  refine (os_sync (os_row h1 h2) hx hP z hz).mono fun e w' hr => ⟨hr.1, ?_⟩
  obtain ⟨k1, k2⟩ := hr.2
  exact ⟨⟨tv, k1.mono fun j hj => hj.imp (fun h => h.1) id, h2.keeps k2 fun j hj hn => hn.2 hj, fun j hj => .inl (h3 j hj)⟩, k2.mono fun j hj => .inl hj.1⟩
theorem Both.fuse (h : Both U w r g x R) (hx : x.Ok) (n : Int) : Calls Tryd.prog 9 #[.pointer (some ⟨g, 0, Option.none⟩), .int .i64 n] w fun e w' => e = .returned (.tuple #[]) ∧ Past U r g (x.fuse n) R w w' := by
  obtain ⟨tv, h1, h2, h3⟩ := h
  refine (os_fuse (os_row h1 h2) hx n).mono fun e w' hr => ⟨hr.1, ?_⟩
  obtain ⟨k1, k2⟩ := hr.2
  exact ⟨⟨tv, k1.mono fun j hj => hj.imp (fun h => h.1) id, h2.keeps k2 fun j hj hn => hn.2 hj, fun j hj => .inl (h3 j hj)⟩, k2.mono fun j hj => .inl hj.1⟩
end
end Go.Proofs.YtjlncjabiofklaaDoor.Rk
