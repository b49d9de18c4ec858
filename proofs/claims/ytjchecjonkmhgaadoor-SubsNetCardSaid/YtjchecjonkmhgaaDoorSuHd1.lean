/- The document's example, called: what is kept. -/
import Derived.Test.YtjchecjonkmhgaaDoorSuInv
import Derived.Deep.DeepCutAuto
import Derived.Deep.RegionHeld3
namespace Go.Proofs.YtjchecjonkmhgaaDoor.Su
open Go.RowKit Pr Cw An Rf
/-- A list of bills whose block is not below one. -/
def Rbb (b : Nat) (w : World) (a : Option Addr) (L : List Bl) : Prop := Rb w a L ∧ ∀ g, a = some ⟨g, 0, Option.none⟩ → b ≤ g
theorem Rbb.later {b : Nat} {w w' : World} {a : Option Addr} {L : List Bl} (h : Rbb b w a L) (k : Below w.heap.size w w') : Rbb b w' a L := ⟨h.1.later k, h.2⟩
theorem Rbb.put {b c : Nat} {w : World} {a : Option Addr} {L : List Bl} (h : Rbb b w a L) (hc : ∀ g, a = some ⟨g, 0, Option.none⟩ → g ≠ c) (o : Nat) (v : Value) : Rbb b (w.setCell ⟨c, o, Option.none⟩ v) a L := by
  refine ⟨fun j hj => ?_, h.2⟩
  obtain ⟨g, hg', hl, h0, h1, h2, h3⟩ := h.1 j hj
  have hg := hc g hg'
  have k : ∀ p, (w.setCell ⟨c, o, Option.none⟩ v).cell? ⟨g, p, Option.none⟩ = w.cell? ⟨g, p, Option.none⟩ := fun p => World.cell?_setCell_other _ _ _ _ (by intro e; injection e with e; omega)
  exact ⟨g, hg', by simpa [World.setCell] using hl, by rw [k]; exact h0, by rw [k]; exact h1, by rw [k]; exact h2, by rw [k]; exact h3⟩
theorem Rbb.ten {b B : Nat} {u : World} {a : Option Addr} {L : List Bl} (h : Rbb b u a L) (hc : ∀ g, a = some ⟨g, 0, Option.none⟩ → g ≠ B) (x0 x1 x2 x3 x4 x5 x6 x7 x8 x9 : Value) : Rbb b ((((((((((u.setCell ⟨B, 0, Option.none⟩ x0).setCell ⟨B, 1, Option.none⟩ x1).setCell ⟨B, 2, Option.none⟩ x2).setCell ⟨B, 3, Option.none⟩ x3).setCell ⟨B, 4, Option.none⟩ x4).setCell ⟨B, 5, Option.none⟩ x5).setCell ⟨B, 6, Option.none⟩ x6).setCell ⟨B, 7, Option.none⟩ x7).setCell ⟨B, 8, Option.none⟩ x8).setCell ⟨B, 9, Option.none⟩ x9) a L :=
  ((((((((((h.put hc 0 x0).put hc 1 x1).put hc 2 x2).put hc 3 x3).put hc 4 x4).put hc 5 x5).put hc 6 x6).put hc 7 x7).put hc 8 x8).put hc 9 x9)
theorem ex_dueb (w : World) (hw : Tab w) : Calls Tryd.prog 9 #[.agg #[.int .u64 1, .int .u64 1, .int .u64 1, .int .i64 738895, .int .i64 15, .int .i64 1, .int .i64 3100, .int .i64 0, .int .i64 0, .int .i64 0], .int .i64 738936, .int .i64 10] w fun e w' =>
    ∃ ad cap, e = .returned (.tuple #[.slice ad 3 cap, .agg #[.int .u64 1, .int .u64 1, .int .u64 1, .int .i64 738895, .int .i64 15, .int .i64 1, .int .i64 3100, .int .i64 3, .int .i64 0, .int .i64 0], .int .i64 0]) ∧ Rbb w.heap.size w' ad ex3b ∧ Below w.heap.size w w' :=
  (due_in ex 24277 738936 10 w hw ex_in ex_ok ⟨by decide, by decide⟩ (by decide) (by decide)).mono fun e w' hr => by
    obtain ⟨n, v, hM, he, hrow, hb⟩ := hr
    obtain rfl := Many.one hM ex_many
    rw [ex_bills] at hrow
    obtain ⟨a, cap, rfl, hR⟩ := own_rb (L := ex3b) hrow
    refine ⟨a, cap, he, ⟨hR, fun g hg => ?_⟩, hb⟩
    rcases hrow.2 with ⟨h0, h1⟩ | ⟨g', cap', cur, hv, hg', _⟩
    · exact absurd h1 (by decide)
    · subst hg
      have e1 := congrArg Value.ownBlock hv
      simp only [Value.ownBlock, Option.some.injEq] at e1
      omega
theorem rb_of {W : World} {B : Nat} {t : TypeId} (h : Blk W B #[.int .i64 0, .int .i64 738895, .int .i64 738900, .int .i64 500, .int .i64 1, .int .i64 738900, .int .i64 738931, .int .i64 3100, .int .i64 2, .int .i64 738931, .int .i64 738960, .int .i64 3100] t) : Rb W (some ⟨B, 0, Option.none⟩) ex3b := fun j hj => by
  have hj' : j < 3 := hj
  rcases (show j = 0 ∨ j = 1 ∨ j = 2 by omega) with rfl | rfl | rfl
  · exact ⟨B, rfl, h.lt, h.cell 0, h.cell 1, h.cell 2, h.cell 3⟩
  · exact ⟨B, rfl, h.lt, h.cell 4, h.cell 5, h.cell 6, h.cell 7⟩
  · exact ⟨B, rfl, h.lt, h.cell 8, h.cell 9, h.cell 10, h.cell 11⟩
/-- What comes up in the call of Due. -/
structure Fy (u0 : World) (ad : Option Addr) (cap : Nat) (fl fd fc fm e0 e1 e2 al f2 st f4 : Bool) (xl xd xc xm y0 y1 y2 x3 x2 x4 : Value) (u : World) : Prop where
  b : Below u0.heap.size u0 u
  o : Own u0 26 Sb.none.cells #[.int .u64 1, .int .u64 1, .int .u64 1, .int .i64 738895, .int .i64 15, .int .i64 1, .int .i64 3100, .int .i64 3, .int .i64 0, .int .i64 0] al st x3 u
  d : st = true → al = true
  rb : fc = true → Rbb u0.heap.size u ad ex3b
  sep : fc = true → al = true → ∀ g, ad = some ⟨g, 0, Option.none⟩ → x3 ≠ .pointer (some ⟨g, 0, Option.none⟩)
  vl : fl = true → xl = .agg #[.int .u64 1, .int .u64 1, .int .u64 1, .int .i64 738895, .int .i64 15, .int .i64 1, .int .i64 3100, .int .i64 0, .int .i64 0, .int .i64 0]
  vd : fd = true → xd = .int .i64 738936
  vc : fc = true → xc = .tuple #[.slice ad 3 cap, .agg #[.int .u64 1, .int .u64 1, .int .u64 1, .int .i64 738895, .int .i64 15, .int .i64 1, .int .i64 3100, .int .i64 3, .int .i64 0, .int .i64 0], .int .i64 0]
  vm : fm = true → fc = true ∧ xm = .tuple #[.slice ad 3 cap, .agg #[.int .u64 1, .int .u64 1, .int .u64 1, .int .i64 738895, .int .i64 15, .int .i64 1, .int .i64 3100, .int .i64 3, .int .i64 0, .int .i64 0], .int .i64 0]
  v0 : e0 = true → fc = true ∧ y0 = .slice ad 3 cap
  v1 : e1 = true → y1 = .agg #[.int .u64 1, .int .u64 1, .int .u64 1, .int .i64 738895, .int .i64 15, .int .i64 1, .int .i64 3100, .int .i64 3, .int .i64 0, .int .i64 0]
  v2 : e2 = true → y2 = .int .i64 0
  w2 : f2 = true → fc = true ∧ x2 = .slice ad 3 cap
  w4 : f4 = true → x4 = .int .i64 0
section
variable {u0 u v : World} {ad : Option Addr} {cap : Nat} {fl fd fc fm e0 e1 e2 al f2 st f4 : Bool} {xl xd xc xm y0 y1 y2 x3 x2 x4 : Value}
theorem Fy.start (h : fl = false ∧ fd = false ∧ fc = false ∧ fm = false ∧ e0 = false ∧ e1 = false ∧ e2 = false ∧ al = false ∧ f2 = false ∧ st = false ∧ f4 = false) (hb : Below u0.heap.size u0 u) : Fy u0 ad cap fl fd fc fm e0 e1 e2 al f2 st f4 xl xd xc xm y0 y1 y2 x3 x2 x4 u := by
  obtain ⟨rfl, rfl, rfl, rfl, rfl, rfl, rfl, rfl, rfl, rfl, rfl⟩ := h
  exact ⟨hb, Own.no _ _, nofun, nofun, nofun, nofun, nofun, nofun, nofun, nofun, nofun, nofun, nofun, nofun⟩
theorem Fy.load (h : Fy u0 ad cap fl fd fc fm e0 e1 e2 al f2 st f4 xl xd xc xm y0 y1 y2 x3 x2 x4 u) : Fy u0 ad cap true fd fc fm e0 e1 e2 al f2 st f4 (.agg #[.int .u64 1, .int .u64 1, .int .u64 1, .int .i64 738895, .int .i64 15, .int .i64 1, .int .i64 3100, .int .i64 0, .int .i64 0, .int .i64 0]) xd xc xm y0 y1 y2 x3 x2 x4 u :=
  ⟨h.b, h.o, h.d, h.rb, h.sep, fun _ => rfl, h.vd, h.vc, h.vm, h.v0, h.v1, h.v2, h.w2, h.w4⟩
theorem Fy.day (h : Fy u0 ad cap fl fd fc fm e0 e1 e2 al f2 st f4 xl xd xc xm y0 y1 y2 x3 x2 x4 u) : Fy u0 ad cap fl true fc fm e0 e1 e2 al f2 st f4 xl (.int .i64 738936) xc xm y0 y1 y2 x3 x2 x4 u :=
  ⟨h.b, h.o, h.d, h.rb, h.sep, h.vl, fun _ => rfl, h.vc, h.vm, h.v0, h.v1, h.v2, h.w2, h.w4⟩
theorem Fy.call (h : Fy u0 ad cap fl fd fc fm e0 e1 e2 al f2 st f4 xl xd xc xm y0 y1 y2 x3 x2 x4 u) (hc : fc = false) {ad' : Option Addr} {cap' : Nat} (hr : Rbb u.heap.size v ad' ex3b) (hb : Below u.heap.size u v) :
    Fy u0 ad' cap' fl fd true fm e0 e1 e2 al f2 st f4 xl xd (.tuple #[.slice ad' 3 cap', .agg #[.int .u64 1, .int .u64 1, .int .u64 1, .int .i64 738895, .int .i64 15, .int .i64 1, .int .i64 3100, .int .i64 3, .int .i64 0, .int .i64 0], .int .i64 0]) xm y0 y1 y2 x3 x2 x4 v := by
  subst hc
  refine ⟨h.b.trans (hb.mono h.b.size), h.o.later hb, h.d, fun _ => ⟨hr.1, fun g hg => Nat.le_trans h.b.size (hr.2 g hg)⟩, fun _ ha g hg hx => ?_, h.vl, h.vd, fun _ => rfl, (fun h' => by cases (h.vm h').1), (fun h' => by cases (h.v0 h').1), h.v1, h.v2, (fun h' => by cases (h.w2 h').1), h.w4⟩
  have h1 := h.o.lt ha hx
  have h2 := hr.2 g hg
  omega
theorem Fy.move (h : Fy u0 ad cap fl fd fc fm e0 e1 e2 al f2 st f4 xl xd xc xm y0 y1 y2 x3 x2 x4 u) (hc : fc = true) : Fy u0 ad cap fl fd fc true e0 e1 e2 al f2 st f4 xl xd xc (.tuple #[.slice ad 3 cap, .agg #[.int .u64 1, .int .u64 1, .int .u64 1, .int .i64 738895, .int .i64 15, .int .i64 1, .int .i64 3100, .int .i64 3, .int .i64 0, .int .i64 0], .int .i64 0]) y0 y1 y2 x3 x2 x4 u :=
  ⟨h.b, h.o, h.d, h.rb, h.sep, h.vl, h.vd, h.vc, fun _ => ⟨hc, rfl⟩, h.v0, h.v1, h.v2, h.w2, h.w4⟩
theorem Fy.ex0 (h : Fy u0 ad cap fl fd fc fm e0 e1 e2 al f2 st f4 xl xd xc xm y0 y1 y2 x3 x2 x4 u) (hm : fm = true) : Fy u0 ad cap fl fd fc fm true e1 e2 al f2 st f4 xl xd xc xm (.slice ad 3 cap) y1 y2 x3 x2 x4 u :=
  ⟨h.b, h.o, h.d, h.rb, h.sep, h.vl, h.vd, h.vc, h.vm, fun _ => ⟨(h.vm hm).1, rfl⟩, h.v1, h.v2, h.w2, h.w4⟩
theorem Fy.ex1 (h : Fy u0 ad cap fl fd fc fm e0 e1 e2 al f2 st f4 xl xd xc xm y0 y1 y2 x3 x2 x4 u) : Fy u0 ad cap fl fd fc fm e0 true e2 al f2 st f4 xl xd xc xm y0 (.agg #[.int .u64 1, .int .u64 1, .int .u64 1, .int .i64 738895, .int .i64 15, .int .i64 1, .int .i64 3100, .int .i64 3, .int .i64 0, .int .i64 0]) y2 x3 x2 x4 u :=
  ⟨h.b, h.o, h.d, h.rb, h.sep, h.vl, h.vd, h.vc, h.vm, h.v0, fun _ => rfl, h.v2, h.w2, h.w4⟩
theorem Fy.ex2 (h : Fy u0 ad cap fl fd fc fm e0 e1 e2 al f2 st f4 xl xd xc xm y0 y1 y2 x3 x2 x4 u) : Fy u0 ad cap fl fd fc fm e0 e1 true al f2 st f4 xl xd xc xm y0 y1 (.int .i64 0) x3 x2 x4 u :=
  ⟨h.b, h.o, h.d, h.rb, h.sep, h.vl, h.vd, h.vc, h.vm, h.v0, h.v1, fun _ => rfl, h.w2, h.w4⟩
theorem Fy.as2 (h : Fy u0 ad cap fl fd fc fm e0 e1 e2 al f2 st f4 xl xd xc xm y0 y1 y2 x3 x2 x4 u) (h0 : e0 = true) : Fy u0 ad cap fl fd fc fm e0 e1 e2 al true st f4 xl xd xc xm y0 y1 y2 x3 (.slice ad 3 cap) x4 u :=
  ⟨h.b, h.o, h.d, h.rb, h.sep, h.vl, h.vd, h.vc, h.vm, h.v0, h.v1, h.v2, fun _ => ⟨(h.v0 h0).1, rfl⟩, h.w4⟩
theorem Fy.as4 (h : Fy u0 ad cap fl fd fc fm e0 e1 e2 al f2 st f4 xl xd xc xm y0 y1 y2 x3 x2 x4 u) : Fy u0 ad cap fl fd fc fm e0 e1 e2 al f2 st true xl xd xc xm y0 y1 y2 x3 x2 (.int .i64 0) u :=
  ⟨h.b, h.o, h.d, h.rb, h.sep, h.vl, h.vd, h.vc, h.vm, h.v0, h.v1, h.v2, h.w2, fun _ => rfl⟩
theorem Fy.alloc (h : Fy u0 ad cap fl fd fc fm e0 e1 e2 al f2 st f4 xl xd xc xm y0 y1 y2 x3 x2 x4 u) (ha : al = false) : Fy u0 ad cap fl fd fc fm e0 e1 e2 true f2 st f4 xl xd xc xm y0 y1 y2 (.pointer (some ⟨u.heap.size, 0, Option.none⟩)) x2 x4 (u.alloc (.cells Sb.none.cells 26)) := by
  have hb : Below u.heap.size u (u.alloc (.cells Sb.none.cells 26)) := (Below.refl _ u).alloc (Nat.le_refl _) _
  refine ⟨below_alloc h.b _, Own.new h.b _ (off_of h.d ha), fun _ => rfl, fun hc => (h.rb hc).later hb, fun hc _ g hg hx => ?_, h.vl, h.vd, h.vc, h.vm, h.v0, h.v1, h.v2, h.w2, h.w4⟩
  obtain ⟨g', hg', hl, _⟩ := (h.rb hc).1 0 (by decide)
  rw [hg] at hg'
  injection hg' with hg'
  injection hg' with hg'
  injection hx with hx
  injection hx with hx
  injection hx with hx
  omega
theorem Fy.at3 (h : Fy u0 ad cap fl fd fc fm e0 e1 e2 al f2 st f4 xl xd xc xm y0 y1 y2 x3 x2 x4 u) (ha : al = true) (hs : st = false) : ∃ B, x3 = .pointer (some ⟨B, 0, Option.none⟩) ∧ Blk u B Sb.none.cells 26 := by
  obtain ⟨B, h1, _, h3⟩ := h.o ha
  subst hs
  exact ⟨B, h1, h3⟩
theorem Fy.store {B : Nat} (h : Fy u0 ad cap fl fd fc fm e0 e1 e2 al f2 st f4 xl xd xc xm y0 y1 y2 (.pointer (some ⟨B, 0, Option.none⟩)) x2 x4 u) (ha : al = true) (hs : st = false) :
    Fy u0 ad cap fl fd fc fm e0 e1 e2 al f2 true f4 xl xd xc xm y0 y1 y2 (.pointer (some ⟨B, 0, Option.none⟩)) x2 x4 ((((((((((u.setCell ⟨B, 0, Option.none⟩ (.int .u64 1)).setCell ⟨B, 1, Option.none⟩ (.int .u64 1)).setCell ⟨B, 2, Option.none⟩ (.int .u64 1)).setCell ⟨B, 3, Option.none⟩ (.int .i64 738895)).setCell ⟨B, 4, Option.none⟩ (.int .i64 15)).setCell ⟨B, 5, Option.none⟩ (.int .i64 1)).setCell ⟨B, 6, Option.none⟩ (.int .i64 3100)).setCell ⟨B, 7, Option.none⟩ (.int .i64 3)).setCell ⟨B, 8, Option.none⟩ (.int .i64 0)).setCell ⟨B, 9, Option.none⟩ (.int .i64 0)) := by
  obtain ⟨C, h1, h2, h3⟩ := h.o ha
  injection h1 with h1
  injection h1 with h1
  injection h1 with h1
  subst h1
  subst hs
  have h3' : Blk u B Sb.none.cells 26 := h3
  exact ⟨below_ten h.b h2 _ _ _ _ _ _ _ _ _ _, fun _ => ⟨B, rfl, h2, h3'.ten _ _ _ _ _ _ _ _ _ _⟩, fun _ => ha, fun hc => (h.rb hc).ten (fun g hg e => h.sep hc ha g hg (by rw [e])) _ _ _ _ _ _ _ _ _ _, h.sep, h.vl, h.vd, h.vc, h.vm, h.v0, h.v1, h.v2, h.w2, h.w4⟩
theorem Fz.start {SV DV OV RV : Value} {A T : Array Value} {fo a6 s6 a7 s7 fz : Bool} {xo x6 x7 x8 : Value} (h : fl = false ∧ fd = false ∧ fo = false ∧ fc = false ∧ fm = false ∧ e0 = false ∧ e1 = false ∧ e2 = false ∧ a6 = false ∧ s6 = false ∧ a7 = false ∧ s7 = false ∧ fz = false) (hb : Below u0.heap.size u0 u) :
    Fz u0 SV DV OV RV A T fl fd fo fc fm e0 e1 e2 a6 s6 a7 s7 fz xl xd xo xc xm y0 y1 y2 x6 x7 x8 u := by
  obtain ⟨rfl, rfl, rfl, rfl, rfl, rfl, rfl, rfl, rfl, rfl, rfl, rfl, rfl⟩ := h
  exact ⟨⟨hb, Own.no _ _, Own.no _ _, nofun⟩, nofun, nofun, nofun, nofun, nofun, nofun, nofun, nofun, nofun, nofun, nofun⟩
end
end Go.Proofs.YtjchecjonkmhgaaDoor.Su
