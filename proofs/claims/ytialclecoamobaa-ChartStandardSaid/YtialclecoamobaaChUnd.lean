/- Package chart: the closure in Under. -/
import Derived.Test.YtialclecoamobaaChWd
namespace Go.Proofs.Ytialclecoamobaa.Ch
open Go Go.RowKit Ck Go.Maps
section
variable {c bm n : Nat} {tv : Value} {M : Int → Option Acc} {K : List Int}
def undV (b1 b2 b3 : Nat) : Value := .func (.func 34) #[] #[.pointer (some ⟨b1, 0, none⟩), .pointer (some ⟨b2, 0, none⟩), .pointer (some ⟨b3, 0, none⟩)]
structure Ub (w : World) (c b1 b2 b3 : Nat) (code : Int) (t1 t2 t3 : TypeId) : Prop where
  a : Rw w b1 t1 [.pointer (some ⟨c, 0, none⟩)]
  b : Rw w b2 t2 [.int .i64 code]
  f : Rw w b3 t3 [undV b1 b2 b3]
theorem Ub.later {w w' : World} {b1 b2 b3 : Nat} {code : Int} {t1 t2 t3 : TypeId} (h : Ub w c b1 b2 b3 code t1 t2 t3) (k : Below w.heap.size w w') : Ub w' c b1 b2 b3 code t1 t2 t3 := ⟨h.a.later k, h.b.later k, h.f.later k⟩
set_option maxRecDepth 100000 in
set_option maxHeartbeats 1600000 in
theorem und_c (hw : Wd M) (code : Int) (b1 b2 b3 : Nat) (t1 t2 t3 : TypeId) (f : Nat) : ∀ (b : Int) (w : World), At w c bm tv n M K → Ub w c b1 b2 b3 code t1 t2 t3 → I64 b → (∀ p, M b = some p → p.depth ≤ f) →
    Calls Try.prog 34 #[.int .i64 b, .pointer (some ⟨b1, 0, none⟩), .pointer (some ⟨b2, 0, none⟩), .pointer (some ⟨b3, 0, none⟩)] w fun e w' => e = .returned (.bool (underM M code (f + 1) b)) ∧ Below w.heap.size w w' := by
  induction f with
  | zero =>
    intro b w h hu hb hd
    have hm : M b = none := by
      cases hm : M b with
      | none => rfl
      | some p => have := (hw.deep b p hm).1; have := hd p hm; omega
    have KG := Lib.hid (get_c h b hb)
    unfold GetRes at KG
    obtain ⟨x, hx⟩ : ∃ x, x = (M b).getD Acc.zero := ⟨_, rfl⟩
    rw [← hx, show (M b).isSome = false by rw [hm]; rfl] at KG
    have hr : underM M code (0 + 1) b = false := by simp only [underM, hm]
    rw [hr]
    have a1 : w.cell? ⟨b1, 0, none⟩ = some (.pointer (some ⟨c, 0, none⟩)) := hu.a.cell 0
    clear h hu hb hd hw hm hr hx
    obtain ⟨xa, xb, xc, xs, xd, xe, xf⟩ := x
    unfold Acc.val at KG
    simp only at KG
    go_enter Try.func34, Try.ntmps34
    go_wp2_with fail
    refine KG.out.mono ?_
    rintro e u ⟨rfl, hb⟩
    have HB : Hid (Below w.heap.size w (u.alloc (.cells #[.int .i64 xa, .int .i64 xb, .int .u8 xc, .string xs, .bool xd, .int .i64 xe, .int .i64 xf] TAcc))) := hb.alloc hb.size _
    go_wp2_with fail
    go_ret
    exact ⟨rfl, HB.out⟩
  | succ f ih =>
    intro b w h hu hb hd
    cases hm : M b with
    | none =>
      have KG := Lib.hid (get_c h b hb)
      unfold GetRes at KG
      obtain ⟨x, hx⟩ : ∃ x, x = (M b).getD Acc.zero := ⟨_, rfl⟩
      rw [← hx, show (M b).isSome = false by rw [hm]; rfl] at KG
      have hr : underM M code (f + 1 + 1) b = false := by simp only [underM, hm]
      rw [hr]
      have a1 : w.cell? ⟨b1, 0, none⟩ = some (.pointer (some ⟨c, 0, none⟩)) := hu.a.cell 0
      clear h hu hb hd hw hm hr hx ih
      obtain ⟨xa, xb, xc, xs, xd, xe, xf⟩ := x
      unfold Acc.val at KG
      simp only at KG
      go_enter Try.func34, Try.ntmps34
      go_wp2_with fail
      refine KG.out.mono ?_
      rintro e u ⟨rfl, hb⟩
      have HB : Hid (Below w.heap.size w (u.alloc (.cells #[.int .i64 xa, .int .i64 xb, .int .u8 xc, .string xs, .bool xd, .int .i64 xe, .int .i64 xf] TAcc))) := hb.alloc hb.size _
      go_wp2_with fail
      go_ret
      exact ⟨rfl, HB.out⟩
    | some p =>
      have KG := Lib.hid (get_c h b hb)
      unfold GetRes at KG
      obtain ⟨x, hx⟩ : ∃ x, x = (M b).getD Acc.zero := ⟨_, rfl⟩
      rw [← hx, show (M b).isSome = true by rw [hm]; rfl] at KG
      obtain rfl : x = p := by rw [hx, hm]; rfl
      have hr : underM M code (f + 1 + 1) b = (decide (b = code) || underM M code (f + 1) x.up) := by rw [underM]; simp only [hm]
      obtain ⟨r, hr2⟩ : ∃ r, r = underM M code (f + 1) x.up := ⟨_, rfl⟩
      rw [hr, ← hr2]
      have a1 : w.cell? ⟨b1, 0, none⟩ = some (.pointer (some ⟨c, 0, none⟩)) := hu.a.cell 0
      have HU := Lib.hid hu
      have hxu : I64 x.up ∧ ∀ q, M x.up = some q → q.depth ≤ f := by
        rcases hw.up b x hm with e | ⟨q, e1, e2⟩
        · rw [e, hw.zero]
          exact ⟨by unfold I64; omega, nofun⟩
        · refine ⟨by have := hw.code _ q e1; unfold I64; omega, fun q' hq => ?_⟩
          rw [e1] at hq
          cases hq
          have := hd x hm
          omega
      have KI : Hid (∀ u, Below w.heap.size w u → Calls Try.prog 34 #[.int .i64 x.up, .pointer (some ⟨b1, 0, none⟩), .pointer (some ⟨b2, 0, none⟩), .pointer (some ⟨b3, 0, none⟩)] u fun e w' => e = .returned (.bool r) ∧ Below u.heap.size u w') := fun u k => by rw [hr2]; exact ih x.up u (h.later k) (hu.later k) hxu.1 hxu.2
      clear h hu hb hd hw hm hr hx ih hr2 hxu
      obtain ⟨xa, xb, xc, xs, xd, xe, xf⟩ := x
      unfold Acc.val at KG
      simp only at KG KI
      go_enter Try.func34, Try.ntmps34
      go_wp2_with fail
      refine KG.out.mono ?_
      rintro e u ⟨rfl, hb⟩
      have HB : Hid (Below w.heap.size w (u.alloc (.cells #[.int .i64 xa, .int .i64 xb, .int .u8 xc, .string xs, .bool xd, .int .i64 xe, .int .i64 xf] TAcc))) := hb.alloc hb.size _
      have KJ := Lib.hid (KI.out _ HB.out)
      have HV := Lib.hid (HU.out.later HB.out)
      have c2 : (u.alloc (.cells #[.int .i64 xa, .int .i64 xb, .int .u8 xc, .string xs, .bool xd, .int .i64 xe, .int .i64 xf] TAcc)).cell? ⟨b2, 0, none⟩ = some (.int .i64 code) := HV.out.b.cell 0
      have c3 : (u.alloc (.cells #[.int .i64 xa, .int .i64 xb, .int .u8 xc, .string xs, .bool xd, .int .i64 xe, .int .i64 xf] TAcc)).cell? ⟨b3, 0, none⟩ = some (.func (.func 34) #[] #[.pointer (some ⟨b1, 0, none⟩), .pointer (some ⟨b2, 0, none⟩), .pointer (some ⟨b3, 0, none⟩)]) := HV.out.f.cell 0
      have c4 : (u.alloc (.cells #[.int .i64 xa, .int .i64 xb, .int .u8 xc, .string xs, .bool xd, .int .i64 xe, .int .i64 xf] TAcc)).cell? ⟨u.heap.size, 1, none⟩ = some (.int .i64 xb) := (Rw.new u [.int .i64 xa, .int .i64 xb, .int .u8 xc, .string xs, .bool xd, .int .i64 xe, .int .i64 xf] TAcc).cell 1
      by_cases e : b = code
      · subst e
        go_wp2_with fail
        go_ret
        exact ⟨by simp, HB.out⟩
      · have e' : (b == code) = false := by simpa using e
        go_wp2_with fail
        refine KJ.out.mono ?_
        rintro e w1 ⟨rfl, hb1⟩
        go_wp2_with fail
        go_ret
        exact ⟨by simp [e], HB.out.trans (hb1.mono HB.out.size)⟩
end
end Go.Proofs.Ytialclecoamobaa.Ch
