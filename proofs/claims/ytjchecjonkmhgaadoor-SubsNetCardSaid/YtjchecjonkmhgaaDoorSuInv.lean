/- The variables that a region makes, whatever its order: what is there of them. -/
import Derived.Test.YtjchecjonkmhgaaDoorSuTop
import Derived.Test.YtjchecjonkmhgaaDoorRfInv
namespace Go.Proofs.YtjchecjonkmhgaaDoor.Su
open Go.RowKit Pr Cw An Rf
/-- A variable that the region makes: made ('a'), stored into ('s'). -/
def Own (u0 : World) (t : TypeId) (Z V : Array Value) (a s : Bool) (x : Value) (u : World) : Prop :=
  a = true → ∃ B, x = .pointer (some ⟨B, 0, Option.none⟩) ∧ u0.heap.size ≤ B ∧ Blk u B (bif s then V else Z) t
section
variable {u0 u v : World} {t : TypeId} {Z V A T : Array Value} {a s a6 s6 a7 s7 : Bool} {x x6 x7 : Value}
theorem Own.later (h : Own u0 t Z V a s x u) (k : Below u.heap.size u v) : Own u0 t Z V a s x v := fun ha => by
  obtain ⟨B, h1, h2, h3⟩ := h ha
  exact ⟨B, h1, h2, h3.later k⟩
theorem Own.no (x : Value) (u : World) : Own u0 t Z V false s x u := fun h => by cases h
theorem Own.new (hb : Below u0.heap.size u0 u) (V : Array Value) (hs : s = false) : Own u0 t Z V true s (.pointer (some ⟨u.heap.size, 0, Option.none⟩)) (u.alloc (.cells Z t)) := fun _ => by
  subst hs
  exact ⟨_, rfl, hb.size, Blk.new u Z t⟩
theorem Own.lt (h : Own u0 t Z V a s x u) (ha : a = true) {B : Nat} (hx : x = .pointer (some ⟨B, 0, Option.none⟩)) : B < u.heap.size := by
  obtain ⟨C, h1, _, h3⟩ := h ha
  rw [hx] at h1
  injection h1 with h1
  injection h1 with h1
  injection h1 with h1
  exact h1 ▸ h3.lt
theorem below_alloc (h : Below u0.heap.size u0 u) (o : Obj) : Below u0.heap.size u0 (u.alloc o) := h.alloc h.size o
theorem Own.ten (h : Own u0 t Z V a s x u) {B : Nat} (hne : a = true → x ≠ .pointer (some ⟨B, 0, Option.none⟩)) (x0 x1 x2 x3 x4 x5 x6 x7 x8 x9 : Value) : Own u0 t Z V a s x ((((((((((u.setCell ⟨B, 0, none⟩ x0).setCell ⟨B, 1, none⟩ x1).setCell ⟨B, 2, none⟩ x2).setCell ⟨B, 3, none⟩ x3).setCell ⟨B, 4, none⟩ x4).setCell ⟨B, 5, none⟩ x5).setCell ⟨B, 6, none⟩ x6).setCell ⟨B, 7, none⟩ x7).setCell ⟨B, 8, none⟩ x8).setCell ⟨B, 9, none⟩ x9) := fun ha => by
  obtain ⟨C, h1, h2, h3⟩ := h ha
  have hCB : C ≠ B := fun e => hne ha (by rw [h1, e])
  exact ⟨C, h1, h2, (ten_heap hCB x0 x1 x2 x3 x4 x5 x6 x7 x8 x9).trans h3⟩
theorem Own.four (h : Own u0 t Z V a s x u) {B : Nat} (hne : a = true → x ≠ .pointer (some ⟨B, 0, Option.none⟩)) (y0 y1 y2 y3 : Value) : Own u0 t Z V a s x ((((u.setCell ⟨B, 0, none⟩ y0).setCell ⟨B, 1, none⟩ y1).setCell ⟨B, 2, none⟩ y2).setCell ⟨B, 3, none⟩ y3) := fun ha => by
  obtain ⟨C, h1, h2, h3⟩ := h ha
  have hCB : C ≠ B := fun e => hne ha (by rw [h1, e])
  exact ⟨C, h1, h2, (((h3.other 0 y0 hCB).other 1 y1 hCB).other 2 y2 hCB).other 3 y3 hCB⟩
/-- A subscription and a turn that the region makes. -/
structure Two (u0 : World) (A T : Array Value) (a6 s6 a7 s7 : Bool) (x6 x7 : Value) (u : World) : Prop where
  b : Below u0.heap.size u0 u
  o6 : Own u0 26 Sb.none.cells A a6 s6 x6 u
  o7 : Own u0 45 zero4 T a7 s7 x7 u
  ne : a6 = true → a7 = true → x6 ≠ x7
theorem Two.later (h : Two u0 A T a6 s6 a7 s7 x6 x7 u) (k : Below u.heap.size u v) : Two u0 A T a6 s6 a7 s7 x6 x7 v := ⟨h.b.trans (k.mono h.b.size), h.o6.later k, h.o7.later k, h.ne⟩
theorem Two.drew (h : Two u0 A T a6 s6 a7 s7 x6 x7 u) : Two u0 A T a6 s6 a7 s7 x6 x7 u.drew := h.later (Below.refl _ u).drew
theorem Two.al6 (h : Two u0 A T a6 s6 a7 s7 x6 x7 u) (hs : s6 = false) : Two u0 A T true s6 a7 s7 (.pointer (some ⟨u.heap.size, 0, Option.none⟩)) x7 (u.alloc (.cells Sb.none.cells 26)) :=
  ⟨below_alloc h.b _, Own.new h.b A hs, h.o7.later ((Below.refl _ u).alloc (Nat.le_refl _) _), fun _ h7 e => Nat.lt_irrefl _ (h.o7.lt h7 e.symm)⟩
theorem Two.al7 (h : Two u0 A T a6 s6 a7 s7 x6 x7 u) (hs : s7 = false) : Two u0 A T a6 s6 true s7 x6 (.pointer (some ⟨u.heap.size, 0, Option.none⟩)) (u.alloc (.cells zero4 45)) :=
  ⟨below_alloc h.b _, h.o6.later ((Below.refl _ u).alloc (Nat.le_refl _) _), Own.new h.b T hs, fun h6 _ e => Nat.lt_irrefl _ (h.o6.lt h6 e)⟩
theorem Two.st6 {B : Nat} {c0 c1 c2 c3 c4 c5 c6 c7 c8 c9 : Value} (h : Two u0 #[c0, c1, c2, c3, c4, c5, c6, c7, c8, c9] T a6 s6 a7 s7 (.pointer (some ⟨B, 0, Option.none⟩)) x7 u) (h6 : a6 = true) (hs : s6 = false) : Two u0 #[c0, c1, c2, c3, c4, c5, c6, c7, c8, c9] T a6 true a7 s7 (.pointer (some ⟨B, 0, Option.none⟩)) x7 ((((((((((u.setCell ⟨B, 0, none⟩ c0).setCell ⟨B, 1, none⟩ c1).setCell ⟨B, 2, none⟩ c2).setCell ⟨B, 3, none⟩ c3).setCell ⟨B, 4, none⟩ c4).setCell ⟨B, 5, none⟩ c5).setCell ⟨B, 6, none⟩ c6).setCell ⟨B, 7, none⟩ c7).setCell ⟨B, 8, none⟩ c8).setCell ⟨B, 9, none⟩ c9) := by
  obtain ⟨C, h1, h2, h3⟩ := h.o6 h6
  injection h1 with h1
  injection h1 with h1
  injection h1 with h1
  subst h1
  subst hs
  have h3' : Blk u B Sb.none.cells 26 := h3
  exact ⟨below_ten h.b h2 c0 c1 c2 c3 c4 c5 c6 c7 c8 c9, fun _ => ⟨B, rfl, h2, h3'.ten c0 c1 c2 c3 c4 c5 c6 c7 c8 c9⟩, h.o7.ten (fun h7 e => h.ne h6 h7 e.symm) c0 c1 c2 c3 c4 c5 c6 c7 c8 c9, h.ne⟩
theorem Two.st7 {B : Nat} {y0 y1 y2 y3 : Value} (h : Two u0 A #[y0, y1, y2, y3] a6 s6 a7 s7 x6 (.pointer (some ⟨B, 0, Option.none⟩)) u) (h7 : a7 = true) (hs : s7 = false) : Two u0 A #[y0, y1, y2, y3] a6 s6 a7 true x6 (.pointer (some ⟨B, 0, Option.none⟩)) ((((u.setCell ⟨B, 0, none⟩ y0).setCell ⟨B, 1, none⟩ y1).setCell ⟨B, 2, none⟩ y2).setCell ⟨B, 3, none⟩ y3) := by
  obtain ⟨C, h1, h2, h3⟩ := h.o7 h7
  injection h1 with h1
  injection h1 with h1
  injection h1 with h1
  subst h1
  subst hs
  have h3' : Blk u B zero4 45 := h3
  exact ⟨below_four h.b h2 y0 y1 y2 y3, h.o6.four (fun h6 e => h.ne h6 h7 e) y0 y1 y2 y3, fun _ => ⟨B, rfl, h2, h3'.four y0 y1 y2 y3⟩, h.ne⟩
/-- Where a variable is that has not been stored into. -/
theorem Two.at6 (h : Two u0 A T a6 s6 a7 s7 x6 x7 u) (h6 : a6 = true) (hs : s6 = false) : ∃ B, x6 = .pointer (some ⟨B, 0, Option.none⟩) ∧ Blk u B Sb.none.cells 26 := by
  obtain ⟨B, h1, _, h3⟩ := h.o6 h6
  subst hs
  exact ⟨B, h1, h3⟩
theorem Two.at7 (h : Two u0 A T a6 s6 a7 s7 x6 x7 u) (h7 : a7 = true) (hs : s7 = false) : ∃ B, x7 = .pointer (some ⟨B, 0, Option.none⟩) ∧ Blk u B zero4 45 := by
  obtain ⟨B, h1, _, h3⟩ := h.o7 h7
  subst hs
  exact ⟨B, h1, h3⟩
/-- What comes up in 'a, x, e := f(s, day, ..)', in whatever order: flags for what has come up. -/
structure Fz (u0 : World) (SV DV OV RV : Value) (A T : Array Value) (fl fd fo fc fm e0 e1 e2 a6 s6 a7 s7 fz : Bool) (xl xd xo xc xm y0 y1 y2 x6 x7 x8 : Value) (u : World) : Prop where
  two : Two u0 A T a6 s6 a7 s7 x6 x7 u
  d6 : s6 = true → a6 = true
  d7 : s7 = true → a7 = true
  vl : fl = true → xl = SV
  vd : fd = true → xd = DV
  vo : fo = true → xo = OV
  vc : fc = true → xc = RV
  vm : fm = true → xm = RV
  v0 : e0 = true → y0 = .agg A
  v1 : e1 = true → y1 = .agg T
  v2 : e2 = true → y2 = .int .i64 0
  v8 : fz = true → x8 = .int .i64 0
theorem off_of {p q : Bool} (h : p = true → q = true) (hq : q = false) : p = false := by
  cases p with
  | false => rfl
  | true => rw [h rfl] at hq; cases hq
end
end Go.Proofs.YtjchecjonkmhgaaDoor.Su
