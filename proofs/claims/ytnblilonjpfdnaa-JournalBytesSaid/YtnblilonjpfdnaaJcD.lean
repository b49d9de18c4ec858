/- Joined: ChWd ChUnd ChUnder. -/
import Derived.Test.YtnblilonjpfdnaaJcC
import Derived.Laws.EntriesVeiled
import Derived.Deep.LoopGhost
import Derived.Maps.AppendAt
section
namespace Go.Proofs.Ytnblilonjpfdnaa.Ch
open Go Go.RowKit Ck Go.Maps
/-- Accounts under accounts: codes are small, a parent is there and one less deep. -/
structure Wd (M : Int → Option Acc) : Prop where
  code : ∀ k p, M k = some p → 1 ≤ k ∧ k ≤ 9999
  deep : ∀ k p, M k = some p → 1 ≤ p.depth ∧ p.depth ≤ 8
  up : ∀ k p, M k = some p → p.up = 0 ∨ ∃ q, M p.up = some q ∧ q.depth + 1 = p.depth
theorem Wd.zero {M : Int → Option Acc} (h : Wd M) : M 0 = none := by
  cases hm : M 0 with
  | none => rfl
  | some p => have := (h.code 0 p hm).1; omega
theorem Wd.empty : Wd (fun _ => Option.none) := ⟨nofun, nofun, nofun⟩
/-- An account changed, its depth and its parent kept. -/
theorem Wd.same {M : Int → Option Acc} (h : Wd M) {k : Int} {p x : Acc} (hk : M k = some p) (hd : x.depth = p.depth) (hu : x.up = p.up) : Wd (upd M k x) := by
  refine ⟨fun j q hj => ?_, fun j q hj => ?_, fun j q hj => ?_⟩
  · unfold upd at hj
    by_cases e : j = k
    · subst e; exact h.code j p hk
    · rw [if_neg e] at hj; exact h.code j q hj
  · unfold upd at hj
    by_cases e : j = k
    · subst e; rw [if_pos rfl] at hj; cases hj; rw [hd]; exact h.deep j p hk
    · rw [if_neg e] at hj; exact h.deep j q hj
  · have key : ∀ c q, M c = some q → ∃ q', upd M k x c = some q' ∧ q'.depth = q.depth := fun c q hc => by
      unfold upd
      by_cases e : c = k
      · subst e; rw [hk] at hc; cases hc; exact ⟨x, if_pos rfl, hd⟩
      · exact ⟨q, by rw [if_neg e]; exact hc, rfl⟩
    have fin : ∀ y : Acc, (y.up = 0 ∨ ∃ q, M y.up = some q ∧ q.depth + 1 = y.depth) → y.up = 0 ∨ ∃ q, upd M k x y.up = some q ∧ q.depth + 1 = y.depth := fun y hy => hy.elim .inl fun ⟨q, h1, h2⟩ => by
      obtain ⟨q', h3, h4⟩ := key _ q h1
      exact .inr ⟨q', h3, by omega⟩
    unfold upd at hj
    by_cases e : j = k
    · subst e
      rw [if_pos rfl] at hj
      cases hj
      refine fin x ?_
      rw [hu, hd]
      exact h.up j p hk
    · rw [if_neg e] at hj
      exact fin q (h.up j q hj)
/-- An account that is new. -/
theorem Wd.new {M : Int → Option Acc} (h : Wd M) {k : Int} {x : Acc} (hk : M k = .none) (hc : 1 ≤ k ∧ k ≤ 9999) (hd : 1 ≤ x.depth ∧ x.depth ≤ 8) (hu : x.up = 0 ∨ ∃ q, M x.up = some q ∧ q.depth + 1 = x.depth) : Wd (upd M k x) := by
  have fin : ∀ y : Acc, (y.up = 0 ∨ ∃ q, M y.up = some q ∧ q.depth + 1 = y.depth) → y.up = 0 ∨ ∃ q, upd M k x y.up = some q ∧ q.depth + 1 = y.depth := fun y hy => hy.elim .inl fun ⟨q, h1, h2⟩ => by
    refine .inr ⟨q, ?_, h2⟩
    unfold upd
    rw [if_neg (fun e => by rw [e, hk] at h1; cases h1)]
    exact h1
  refine ⟨fun j q hj => ?_, fun j q hj => ?_, fun j q hj => ?_⟩ <;> unfold upd at hj <;> by_cases e : j = k
  · subst e; exact hc
  · rw [if_neg e] at hj; exact h.code j q hj
  · subst e; rw [if_pos rfl] at hj; cases hj; exact hd
  · rw [if_neg e] at hj; exact h.deep j q hj
  · subst e; rw [if_pos rfl] at hj; cases hj; exact fin _ hu
  · rw [if_neg e] at hj; exact fin q (h.up j q hj)
theorem Wd.add {M : Int → Option Acc} (h : Wd M) (a : A5) : Wd (addM M a).1 := by
  unfold addM
  by_cases hv : a.validB = false
  · rw [if_pos hv]; exact h
  rw [if_neg hv]
  by_cases hs : (M a.code).isSome = true
  · rw [if_pos hs]; exact h
  rw [if_neg hs]
  have hc : 1 ≤ a.code ∧ a.code ≤ 9999 := by
    have hv' : a.validB = true := by simpa using hv
    unfold A5.validB at hv'
    simp only [Bool.and_eq_true, decide_eq_true_eq] at hv'
    exact ⟨hv'.1.1.1.1.1, hv'.1.1.1.1.2⟩
  have hm : M a.code = .none := by simpa using hs
  by_cases hu : a.up = 0
  · rw [if_pos hu]
    refine h.new hm hc ?_ (.inl hu)
    rw [h.zero]
    exact ⟨show (1 : Int) ≤ 0 + 1 by decide, show (0 : Int) + 1 ≤ 8 by decide⟩
  rw [if_neg hu]
  cases hp : M a.up with
  | none => exact h
  | some p =>
    simp only
    split
    · exact h
    · rename_i hn
      have hd := h.deep _ p hp
      have h8 : ¬ 8 ≤ p.depth := fun e => hn (.inr (.inr e))
      have hne : a.code ≠ a.up := fun e => by rw [e, hp] at hm; cases hm
      refine (h.same (x := ⟨p.code, p.up, p.cls, p.name, p.shut, p.depth, p.kids + 1⟩) hp rfl rfl).new ?_ hc ⟨by show 1 ≤ p.depth + 1; omega, by show p.depth + 1 ≤ 8; omega⟩ (.inr ⟨_, if_pos rfl, rfl⟩)
      unfold upd
      rw [if_neg hne]
      exact hm
/-- Whether b is code or is under it, by at most f steps. -/
def underM (M : Int → Option Acc) (code : Int) : Nat → Int → Bool
  | 0, _ => false
  | f + 1, b => match M b with
    | .none => false
    | .some p => decide (b = code) || underM M code f p.up
theorem Wd.under {M : Int → Option Acc} (h : Wd M) (code : Int) : ∀ (f g : Nat) (b : Int), (∀ p, M b = some p → p.depth ≤ f ∧ p.depth ≤ g) → underM M code (f + 1) b = underM M code (g + 1) b := by
  intro f
  induction f with
  | zero =>
    intro g b hb
    cases hm : M b with
    | none => simp only [underM, hm]
    | some p => have := (h.deep b p hm).1; have := (hb p hm).1; omega
  | succ f ih =>
    intro g b hb
    cases hm : M b with
    | none => simp only [underM, hm]
    | some p =>
      have h1 := (h.deep b p hm).1
      have h2 := hb p hm
      cases g with
      | zero => omega
      | succ g =>
        have key : underM M code (f + 1) p.up = underM M code (g + 1) p.up := ih g p.up fun q hq => by
          rcases h.up b p hm with e | ⟨q', e1, e2⟩
          · rw [e, h.zero] at hq; cases hq
          · rw [hq] at e1; cases e1; omega
        rw [underM, underM]
        simp only [hm]
        rw [key]
/-- No account has more than N below it. -/
def Kd (N : Nat) (M : Int → Option Acc) : Prop := ∀ c p, M c = some p → 0 ≤ p.kids ∧ p.kids ≤ N
theorem Kd.empty : Kd 0 (fun _ => Option.none) := nofun
theorem Kd.upd {N : Nat} {M : Int → Option Acc} (h : Kd N M) {k : Int} {x : Acc} (hx : 0 ≤ x.kids ∧ x.kids ≤ N) : Kd N (upd M k x) := fun c p hc => by
  unfold Ch.upd at hc
  by_cases e : c = k
  · rw [if_pos e] at hc; cases hc; exact hx
  · rw [if_neg e] at hc; exact h c p hc
theorem Kd.more {N N' : Nat} {M : Int → Option Acc} (h : Kd N M) (hN : N ≤ N') : Kd N' M := fun c p hc => by
  have := h c p hc
  omega
theorem Kd.add {N : Nat} {M : Int → Option Acc} (h : Kd N M) (a : A5) : Kd (N + 1) (addM M a).1 := by
  have h1 : Kd (N + 1) M := h.more (by omega)
  unfold addM
  split
  · exact h1
  split
  · exact h1
  split
  · exact h1.upd ⟨by show (0 : Int) ≤ 0; omega, by show (0 : Int) ≤ _; omega⟩
  split
  · exact h1
  · rename_i p hp
    split
    · exact h1
    · have := h _ p hp
      exact (h1.upd ⟨by show 0 ≤ p.kids + 1; omega, by show p.kids + 1 ≤ _; omega⟩).upd ⟨by show (0 : Int) ≤ 0; omega, by show (0 : Int) ≤ _; omega⟩
theorem Wd.bd {N : Nat} {M : Int → Option Acc} (h : Wd M) (k : Kd N M) (hN : N ≤ 1000000) : Bd M := fun c p hc => by
  have h1 := h.deep c p hc
  have h2 := k c p hc
  exact ⟨by omega, by omega, h2.1, by omega⟩
end Go.Proofs.Ytnblilonjpfdnaa.Ch
end
section
namespace Go.Proofs.Ytnblilonjpfdnaa.Ch
open Go Go.RowKit Ck Go.Maps
section
variable {c bm n : Nat} {tv : Value} {M : Int → Option Acc} {K : List Int}
def undV (b1 b2 b3 : Nat) : Value := .func (.func 74) #[] #[.pointer (some ⟨b1, 0, none⟩), .pointer (some ⟨b2, 0, none⟩), .pointer (some ⟨b3, 0, none⟩)]
structure Ub (w : World) (c b1 b2 b3 : Nat) (code : Int) (t1 t2 t3 : TypeId) : Prop where
  a : Rw w b1 t1 [.pointer (some ⟨c, 0, none⟩)]
  b : Rw w b2 t2 [.int .i64 code]
  f : Rw w b3 t3 [undV b1 b2 b3]
theorem Ub.later {w w' : World} {b1 b2 b3 : Nat} {code : Int} {t1 t2 t3 : TypeId} (h : Ub w c b1 b2 b3 code t1 t2 t3) (k : Below w.heap.size w w') : Ub w' c b1 b2 b3 code t1 t2 t3 := ⟨h.a.later k, h.b.later k, h.f.later k⟩
set_option maxRecDepth 100000 in
set_option maxHeartbeats 1600000 in
theorem und_c (hw : Wd M) (code : Int) (b1 b2 b3 : Nat) (t1 t2 t3 : TypeId) (f : Nat) : ∀ (b : Int) (w : World), At w c bm tv n M K → Ub w c b1 b2 b3 code t1 t2 t3 → I64 b → (∀ p, M b = some p → p.depth ≤ f) →
    Calls Try.prog 74 #[.int .i64 b, .pointer (some ⟨b1, 0, none⟩), .pointer (some ⟨b2, 0, none⟩), .pointer (some ⟨b3, 0, none⟩)] w fun e w' => e = .returned (.bool (underM M code (f + 1) b)) ∧ Below w.heap.size w w' := by
  induction f with
  | zero =>
    intro b w h hu hb hd
    have hm : M b = none := by
      cases hm : M b with
      | none => rfl
      | some p => have := (hw.deep b p hm).1; have := hd p hm; omega
    have KG := Lib.hid (get_c h b hb)
    unfold GetRes at KG
    obtain ⟨x, hx⟩ : ∃ x, x = (M b).getD Acc.zero := ⟨_, rfl⟩
    rw [← hx, show (M b).isSome = false by rw [hm]; rfl] at KG
    have hr : underM M code (0 + 1) b = false := by simp only [underM, hm]
    rw [hr]
    have a1 : w.cell? ⟨b1, 0, none⟩ = some (.pointer (some ⟨c, 0, none⟩)) := hu.a.cell 0
    clear h hu hb hd hw hm hr hx
    obtain ⟨xa, xb, xc, xs, xd, xe, xf⟩ := x
    unfold Acc.val at KG
    simp only at KG
    go_enter Try.func74, Try.ntmps74
    go_wp2_with fail
    refine KG.out.mono ?_
    rintro e u ⟨rfl, hb⟩
    have HB : Hid (Below w.heap.size w (u.alloc (.cells #[.int .i64 xa, .int .i64 xb, .int .u8 xc, .string xs, .bool xd, .int .i64 xe, .int .i64 xf] TAcc))) := hb.alloc hb.size _
    go_wp2_with fail
    go_ret
    exact ⟨rfl, HB.out⟩
  | succ f ih =>
    intro b w h hu hb hd
    cases hm : M b with
    | none =>
      have KG := Lib.hid (get_c h b hb)
      unfold GetRes at KG
      obtain ⟨x, hx⟩ : ∃ x, x = (M b).getD Acc.zero := ⟨_, rfl⟩
      rw [← hx, show (M b).isSome = false by rw [hm]; rfl] at KG
      have hr : underM M code (f + 1 + 1) b = false := by simp only [underM, hm]
      rw [hr]
      have a1 : w.cell? ⟨b1, 0, none⟩ = some (.pointer (some ⟨c, 0, none⟩)) := hu.a.cell 0
      clear h hu hb hd hw hm hr hx ih
      obtain ⟨xa, xb, xc, xs, xd, xe, xf⟩ := x
      unfold Acc.val at KG
      simp only at KG
      go_enter Try.func74, Try.ntmps74
      go_wp2_with fail
      refine KG.out.mono ?_
      rintro e u ⟨rfl, hb⟩
      have HB : Hid (Below w.heap.size w (u.alloc (.cells #[.int .i64 xa, .int .i64 xb, .int .u8 xc, .string xs, .bool xd, .int .i64 xe, .int .i64 xf] TAcc))) := hb.alloc hb.size _
      go_wp2_with fail
      go_ret
      exact ⟨rfl, HB.out⟩
    | some p =>
      have KG := Lib.hid (get_c h b hb)
      unfold GetRes at KG
      obtain ⟨x, hx⟩ : ∃ x, x = (M b).getD Acc.zero := ⟨_, rfl⟩
      rw [← hx, show (M b).isSome = true by rw [hm]; rfl] at KG
      obtain rfl : x = p := by rw [hx, hm]; rfl
      have hr : underM M code (f + 1 + 1) b = (decide (b = code) || underM M code (f + 1) x.up) := by rw [underM]; simp only [hm]
      obtain ⟨r, hr2⟩ : ∃ r, r = underM M code (f + 1) x.up := ⟨_, rfl⟩
      rw [hr, ← hr2]
      have a1 : w.cell? ⟨b1, 0, none⟩ = some (.pointer (some ⟨c, 0, none⟩)) := hu.a.cell 0
      have HU := Lib.hid hu
      have hxu : I64 x.up ∧ ∀ q, M x.up = some q → q.depth ≤ f := by
        rcases hw.up b x hm with e | ⟨q, e1, e2⟩
        · rw [e, hw.zero]
          exact ⟨by unfold I64; omega, nofun⟩
        · refine ⟨by have := hw.code _ q e1; unfold I64; omega, fun q' hq => ?_⟩
          rw [e1] at hq
          cases hq
          have := hd x hm
          omega
      have KI : Hid (∀ u, Below w.heap.size w u → Calls Try.prog 74 #[.int .i64 x.up, .pointer (some ⟨b1, 0, none⟩), .pointer (some ⟨b2, 0, none⟩), .pointer (some ⟨b3, 0, none⟩)] u fun e w' => e = .returned (.bool r) ∧ Below u.heap.size u w') := fun u k => by rw [hr2]; exact ih x.up u (h.later k) (hu.later k) hxu.1 hxu.2
      clear h hu hb hd hw hm hr hx ih hr2 hxu
      obtain ⟨xa, xb, xc, xs, xd, xe, xf⟩ := x
      unfold Acc.val at KG
      simp only at KG KI
      go_enter Try.func74, Try.ntmps74
      go_wp2_with fail
      refine KG.out.mono ?_
      rintro e u ⟨rfl, hb⟩
      have HB : Hid (Below w.heap.size w (u.alloc (.cells #[.int .i64 xa, .int .i64 xb, .int .u8 xc, .string xs, .bool xd, .int .i64 xe, .int .i64 xf] TAcc))) := hb.alloc hb.size _
      have KJ := Lib.hid (KI.out _ HB.out)
      have HV := Lib.hid (HU.out.later HB.out)
      have c2 : (u.alloc (.cells #[.int .i64 xa, .int .i64 xb, .int .u8 xc, .string xs, .bool xd, .int .i64 xe, .int .i64 xf] TAcc)).cell? ⟨b2, 0, none⟩ = some (.int .i64 code) := HV.out.b.cell 0
      have c3 : (u.alloc (.cells #[.int .i64 xa, .int .i64 xb, .int .u8 xc, .string xs, .bool xd, .int .i64 xe, .int .i64 xf] TAcc)).cell? ⟨b3, 0, none⟩ = some (.func (.func 74) #[] #[.pointer (some ⟨b1, 0, none⟩), .pointer (some ⟨b2, 0, none⟩), .pointer (some ⟨b3, 0, none⟩)]) := HV.out.f.cell 0
      have c4 : (u.alloc (.cells #[.int .i64 xa, .int .i64 xb, .int .u8 xc, .string xs, .bool xd, .int .i64 xe, .int .i64 xf] TAcc)).cell? ⟨u.heap.size, 1, none⟩ = some (.int .i64 xb) := (Rw.new u [.int .i64 xa, .int .i64 xb, .int .u8 xc, .string xs, .bool xd, .int .i64 xe, .int .i64 xf] TAcc).cell 1
      by_cases e : b = code
      · subst e
        go_wp2_with fail
        go_ret
        exact ⟨by simp, HB.out⟩
      · have e' : (b == code) = false := by simpa using e
        go_wp2_with fail
        refine KJ.out.mono ?_
        rintro e w1 ⟨rfl, hb1⟩
        go_wp2_with fail
        go_ret
        exact ⟨by simp [e], HB.out.trans (hb1.mono HB.out.size)⟩
end
end Go.Proofs.Ytnblilonjpfdnaa.Ch
end
section
namespace Go.Proofs.Ytnblilonjpfdnaa.Ch
open Go Go.RowKit Ck Go.Maps
/-- The codes that are code or are under it. -/
def undL (M : Int → Option Acc) (K : List Int) (code : Int) : List Int := K.filter (fun b => underM M code 9 b)
theorem underM_none {M : Int → Option Acc} {code : Int} (h : M code = none) : ∀ (f : Nat) (b : Int), underM M code f b = false
  | 0, _ => rfl
  | f + 1, b => by
    rw [underM]
    cases hb : M b with
    | none => rfl
    | some p =>
      have hne : b ≠ code := fun e => by rw [e, h] at hb; cases hb
      simp only [hne, decide_false, Bool.false_or]
      exact underM_none h f p.up
theorem undL_none {M : Int → Option Acc} {code : Int} (h : M code = none) (K : List Int) : undL M K code = [] := by
  unfold undL
  rw [List.filter_eq_nil_iff]
  intro a _
  rw [underM_none h]
  decide
theorem own_lower {w : World} {base base' e size n : Nat} {v : Value} {xs : List Value} (h : w.ownsRow base e size v n xs) (hb : base' ≤ base) : w.ownsRow base' e size v n xs := by
  rcases h.2 with ⟨rfl, h0⟩ | ⟨g, cap, cur, rfl, hg, r⟩
  · exact ⟨h.1, .inl ⟨rfl, h0⟩⟩
  · exact ⟨h.1, .inr ⟨g, cap, cur, rfl, Nat.le_trans hb hg, r⟩⟩
/-- A new list of numbers. -/
def IntsRes (L : List Int) (w : World) (e : Ending) (w' : World) : Prop := ∃ v, e = .returned v ∧ w'.ownsRow w.heap.size TInt 1 v L.length (L.map iv) ∧ Below w.heap.size w w'
section
variable {w : World} {c bm n : Nat} {tv : Value} {M : Int → Option Acc} {K : List Int}
set_option maxRecDepth 100000 in
/-- No chart. -/
theorem get_nil (w : World) (k : Int) : Calls Try.prog 38 #[.pointer none, .int .i64 k] w fun e w' => e = .returned (.tuple #[Acc.zero.val, .bool false]) ∧ Below w.heap.size w w' := by
  have HB0 : Hid (Below w.heap.size w (w.alloc (.cells #[.int .i64 0, .int .i64 0, .int .u8 0, .string ⟨#[]⟩, .bool false, .int .i64 0, .int .i64 0] TAcc))) := (Below.refl _ w).alloc (Nat.le_refl _) _
  have R0 : Hid (Rw (w.alloc (.cells #[.int .i64 0, .int .i64 0, .int .u8 0, .string ⟨#[]⟩, .bool false, .int .i64 0, .int .i64 0] TAcc)) w.heap.size TAcc [.int .i64 0, .int .i64 0, .int .u8 0, .string ⟨#[]⟩, .bool false, .int .i64 0, .int .i64 0]) := Rw.new w [.int .i64 0, .int .i64 0, .int .u8 0, .string ⟨#[]⟩, .bool false, .int .i64 0, .int .i64 0] TAcc
  have HINF : Hid ((Try.prog.info? TAcc).map (·.size) = some 7) := by show _ = _; kernel_rfl
  have KI := Lib.hid is_nil
  unfold Acc.zero Acc.val
  simp only
  go_enter Try.func38, Try.ntmps38
  go_wp2_with fail
  generalize w.alloc (.cells #[.int .i64 0, .int .i64 0, .int .u8 0, .string ⟨#[]⟩, .bool false, .int .i64 0, .int .i64 0] TAcc) = W0 at HB0 R0 ⊢
  refine (KI.out _).mono ?_
  rintro e w' ⟨rfl, rfl⟩
  have R2 : Hid (Rw (W0.setCells w.heap.size 0 #[.int .i64 0, .int .i64 0, .int .u8 0, .string ⟨#[]⟩, .bool false, .int .i64 0, .int .i64 0].toList) w.heap.size TAcc [.int .i64 0, .int .i64 0, .int .u8 0, .string ⟨#[]⟩, .bool false, .int .i64 0, .int .i64 0]) := by
    have := R0.out.setCells (cs := [.int .i64 0, .int .i64 0, .int .u8 0, .string ⟨#[]⟩, .bool false, .int .i64 0, .int .i64 0]) 0 (by simp)
    exact this
  have HB2 : Hid (Below w.heap.size w (W0.setCells w.heap.size 0 #[.int .i64 0, .int .i64 0, .int .u8 0, .string ⟨#[]⟩, .bool false, .int .i64 0, .int .i64 0].toList)) := Keeps.belowT HB0.out ((Keeps.refl (fun j => j = w.heap.size) _).setCells w.heap.size 0 _ (.inl rfl)) (fun j hj => Nat.le_of_eq hj.symm) HB0.out.size
  go_wp2_with (with_reducible refine wpList_store_mid rfl TAcc _ _ rfl w.heap.size 0 #[.int .i64 0, .int .i64 0, .int .u8 0, .string ⟨#[]⟩, .bool false, .int .i64 0, .int .i64 0] rfl rfl ?thr ?inf ?one ?_)
  case thr => exact R0.out.there 0 7 (by simp)
  case inf => simpa using HINF.out
  case one => simp [Value.oneCell']
  generalize W0.setCells w.heap.size 0 #[.int .i64 0, .int .i64 0, .int .u8 0, .string ⟨#[]⟩, .bool false, .int .i64 0, .int .i64 0].toList = W2 at R2 HB2 ⊢
  go_wp2_with fail
  have r0 : W2.cell? ⟨w.heap.size, 0, none⟩ = some (.int .i64 0) := R2.out.cell 0
  have r1 : W2.cell? ⟨w.heap.size, 1, none⟩ = some (.int .i64 0) := R2.out.cell 1
  have r2 : W2.cell? ⟨w.heap.size, 2, none⟩ = some (.int .u8 0) := R2.out.cell 2
  have r3 : W2.cell? ⟨w.heap.size, 3, none⟩ = some (.string ⟨#[]⟩) := R2.out.cell 3
  have r4 : W2.cell? ⟨w.heap.size, 4, none⟩ = some (.bool false) := R2.out.cell 4
  have r5 : W2.cell? ⟨w.heap.size, 5, none⟩ = some (.int .i64 0) := R2.out.cell 5
  have r6 : W2.cell? ⟨w.heap.size, 6, none⟩ = some (.int .i64 0) := R2.out.cell 6
  refine bodyPost_ret (v := .tuple #[.agg #[.int .i64 0, .int .i64 0, .int .u8 0, .string ⟨#[]⟩, .bool false, .int .i64 0, .int .i64 0], .bool false]) (by simp [results, Try.results38, go_sem, r0, r1, r2, r3, r4, r5, r6]) rfl ?_
  exact ⟨rfl, HB2.out⟩
set_option maxRecDepth 100000 in
/-- A chart that nobody made. -/
theorem get_zero (h : Rw w c TCh [.map none, .slice none 0 0]) (k : Int) : Calls Try.prog 38 #[.pointer (some ⟨c, 0, none⟩), .int .i64 k] w fun e w' => e = .returned (.tuple #[Acc.zero.val, .bool false]) ∧ Below w.heap.size w w' := by
  have HB0 : Hid (Below w.heap.size w (w.alloc (.cells #[.int .i64 0, .int .i64 0, .int .u8 0, .string ⟨#[]⟩, .bool false, .int .i64 0, .int .i64 0] TAcc))) := (Below.refl _ w).alloc (Nat.le_refl _) _
  have R0 : Hid (Rw (w.alloc (.cells #[.int .i64 0, .int .i64 0, .int .u8 0, .string ⟨#[]⟩, .bool false, .int .i64 0, .int .i64 0] TAcc)) w.heap.size TAcc [.int .i64 0, .int .i64 0, .int .u8 0, .string ⟨#[]⟩, .bool false, .int .i64 0, .int .i64 0]) := Rw.new w [.int .i64 0, .int .i64 0, .int .u8 0, .string ⟨#[]⟩, .bool false, .int .i64 0, .int .i64 0] TAcc
  have HINF : Hid ((Try.prog.info? TAcc).map (·.size) = some 7) := by show _ = _; kernel_rfl
  have KI := Lib.hid (is_zero (h.later HB0.out))
  unfold Acc.zero Acc.val
  simp only
  go_enter Try.func38, Try.ntmps38
  go_wp2_with fail
  generalize w.alloc (.cells #[.int .i64 0, .int .i64 0, .int .u8 0, .string ⟨#[]⟩, .bool false, .int .i64 0, .int .i64 0] TAcc) = W0 at HB0 R0 KI ⊢
  refine KI.out.mono ?_
  rintro e w' ⟨rfl, rfl⟩
  have R2 : Hid (Rw (W0.setCells w.heap.size 0 #[.int .i64 0, .int .i64 0, .int .u8 0, .string ⟨#[]⟩, .bool false, .int .i64 0, .int .i64 0].toList) w.heap.size TAcc [.int .i64 0, .int .i64 0, .int .u8 0, .string ⟨#[]⟩, .bool false, .int .i64 0, .int .i64 0]) := by
    have := R0.out.setCells (cs := [.int .i64 0, .int .i64 0, .int .u8 0, .string ⟨#[]⟩, .bool false, .int .i64 0, .int .i64 0]) 0 (by simp)
    exact this
  have HB2 : Hid (Below w.heap.size w (W0.setCells w.heap.size 0 #[.int .i64 0, .int .i64 0, .int .u8 0, .string ⟨#[]⟩, .bool false, .int .i64 0, .int .i64 0].toList)) := Keeps.belowT HB0.out ((Keeps.refl (fun j => j = w.heap.size) _).setCells w.heap.size 0 _ (.inl rfl)) (fun j hj => Nat.le_of_eq hj.symm) HB0.out.size
  go_wp2_with (with_reducible refine wpList_store_mid rfl TAcc _ _ rfl w.heap.size 0 #[.int .i64 0, .int .i64 0, .int .u8 0, .string ⟨#[]⟩, .bool false, .int .i64 0, .int .i64 0] rfl rfl ?thr ?inf ?one ?_)
  case thr => exact R0.out.there 0 7 (by simp)
  case inf => simpa using HINF.out
  case one => simp [Value.oneCell']
  generalize W0.setCells w.heap.size 0 #[.int .i64 0, .int .i64 0, .int .u8 0, .string ⟨#[]⟩, .bool false, .int .i64 0, .int .i64 0].toList = W2 at R2 HB2 ⊢
  go_wp2_with fail
  have r0 : W2.cell? ⟨w.heap.size, 0, none⟩ = some (.int .i64 0) := R2.out.cell 0
  have r1 : W2.cell? ⟨w.heap.size, 1, none⟩ = some (.int .i64 0) := R2.out.cell 1
  have r2 : W2.cell? ⟨w.heap.size, 2, none⟩ = some (.int .u8 0) := R2.out.cell 2
  have r3 : W2.cell? ⟨w.heap.size, 3, none⟩ = some (.string ⟨#[]⟩) := R2.out.cell 3
  have r4 : W2.cell? ⟨w.heap.size, 4, none⟩ = some (.bool false) := R2.out.cell 4
  have r5 : W2.cell? ⟨w.heap.size, 5, none⟩ = some (.int .i64 0) := R2.out.cell 5
  have r6 : W2.cell? ⟨w.heap.size, 6, none⟩ = some (.int .i64 0) := R2.out.cell 6
  refine bodyPost_ret (v := .tuple #[.agg #[.int .i64 0, .int .i64 0, .int .u8 0, .string ⟨#[]⟩, .bool false, .int .i64 0, .int .i64 0], .bool false]) (by simp [results, Try.results38, go_sem, r0, r1, r2, r3, r4, r5, r6]) rfl ?_
  exact ⟨rfl, HB2.out⟩
set_option maxRecDepth 100000 in
set_option maxHeartbeats 3200000 in
theorem under_c (h : At w c bm tv n M K) (hw : Wd M) (code : Int) (hk : I64 code) (hK9 : K.length ≤ 1000000) : Calls Try.prog 39 #[.pointer (some ⟨c, 0, none⟩), .int .i64 code] w (IntsRes (undL M K code) w) := by
  have H := Lib.hid h
  have HW := Lib.hid hw
  obtain ⟨i0, hi0, hz0, hz1, hz2⟩ := info_parts infoInt
  have HKG : Hid (∀ u, Below w.heap.size w u → Calls Try.prog 38 #[.pointer (some ⟨c, 0, none⟩), .int .i64 code] u (GetRes M code u)) := fun u hu => get_c (h.later hu) code hk
  clear h hw hk
  go_enter Try.func39, Try.ntmps39
  go_wp2_with fail
  obtain ⟨g, hg⟩ : ∃ g, g = w.heap.size := ⟨_, rfl⟩
  have HB1 : Hid (Below w.heap.size w ((w.alloc (.cells #[.pointer (some ⟨c, 0, none⟩)] 30)).alloc (.cells #[.int .i64 code] TInt))) := ((Below.refl _ w).alloc (Nat.le_refl _) _).alloc (by simp) _
  have RC1 : Hid (Rw ((w.alloc (.cells #[.pointer (some ⟨c, 0, none⟩)] 30)).alloc (.cells #[.int .i64 code] TInt)) g 30 [.pointer (some ⟨c, 0, none⟩)]) := by rw [hg]; exact (Rw.new w [.pointer (some ⟨c, 0, none⟩)] _).later ((Below.refl _ _).alloc (Nat.le_refl _) _)
  have RK1 : Hid (Rw ((w.alloc (.cells #[.pointer (some ⟨c, 0, none⟩)] 30)).alloc (.cells #[.int .i64 code] TInt)) (g + 1) TInt [.int .i64 code]) := by
    have := Rw.new (w.alloc (.cells #[.pointer (some ⟨c, 0, none⟩)] 30)) [.int .i64 code] TInt
    have e : (w.alloc (.cells #[.pointer (some ⟨c, 0, none⟩)] 30)).heap.size = g + 1 := by rw [hg]; simp
    rw [e] at this
    exact this
  rw [← hg]
  have HG := Lib.hid hg
  clear hg
  generalize (w.alloc (.cells #[.pointer (some ⟨c, 0, none⟩)] 30)).alloc (.cells #[.int .i64 code] TInt) = W1 at HB1 RC1 RK1 ⊢
  have KG := Lib.hid (HKG.out W1 HB1.out)
  unfold GetRes at KG
  obtain ⟨x, hx⟩ : ∃ x, x = (M code).getD Acc.zero := ⟨_, rfl⟩
  obtain ⟨q, hq⟩ : ∃ q, q = (M code).isSome := ⟨_, rfl⟩
  rw [← hx, ← hq] at KG
  have HQ := Lib.hid hq
  clear hx hq HKG
  obtain ⟨xa, xb, xc, xs, xd, xe, xf⟩ := x
  unfold Acc.val at KG
  simp only at KG
  refine KG.out.mono ?_
  rintro e u ⟨rfl, hb⟩
  have HB2 : Hid (Below w.heap.size w u) := HB1.out.trans (hb.mono HB1.out.size)
  have RC2 := Lib.hid (RC1.out.later hb)
  have RK2 := Lib.hid (RK1.out.later hb)
  clear hb KG RC1 RK1 HB1
  have hm : q = false → M code = none := fun e => by
    have := HQ.out
    cases hmm : M code with
    | none => rfl
    | some p => rw [hmm, e] at this; cases this
  cases q with
  | false =>
    have hL : Hid (undL M K code = []) := undL_none (hm rfl) K
    have HB3 : Hid (Below w.heap.size w (u.alloc (.cells #[.int .i64 xa, .int .i64 xb, .int .u8 xc, .string xs, .bool xd, .int .i64 xe, .int .i64 xf] TAcc))) := HB2.out.alloc HB2.out.size _
    clear hm
    go_wp2_with fail
    go_ret
    rw [hL.out]
    exact ⟨_, rfl, World.ownsRow_nil _ _ _ _, HB3.out⟩
  | true =>
    clear hm
    go_upto_region 5 with (fail)
    have HU2 : Hid (g + 1 < u.heap.size) := RK2.out.lt
    have HB3 : Hid (Below w.heap.size w ((u.alloc (.cells #[.int .i64 xa, .int .i64 xb, .int .u8 xc, .string xs, .bool xd, .int .i64 xe, .int .i64 xf] TAcc)).alloc (.cells #[Value.nilFunc] 74))) := (HB2.out.alloc HB2.out.size _).alloc (Nat.le_trans HB2.out.size (by simp)) _
    have hb3 : Below u.heap.size u ((u.alloc (.cells #[.int .i64 xa, .int .i64 xb, .int .u8 xc, .string xs, .bool xd, .int .i64 xe, .int .i64 xf] TAcc)).alloc (.cells #[Value.nilFunc] 74)) := ((Below.refl _ u).alloc (Nat.le_refl _) _).alloc (by simp) _
    have RC3 := Lib.hid (RC2.out.later hb3)
    have RK3 := Lib.hid (RK2.out.later hb3)
    have RF3 : Hid (Rw ((u.alloc (.cells #[.int .i64 xa, .int .i64 xb, .int .u8 xc, .string xs, .bool xd, .int .i64 xe, .int .i64 xf] TAcc)).alloc (.cells #[Value.nilFunc] 74)) (u.heap.size + 1) 74 [Value.nilFunc]) := by
      have := Rw.new (u.alloc (.cells #[.int .i64 xa, .int .i64 xb, .int .u8 xc, .string xs, .bool xd, .int .i64 xe, .int .i64 xf] TAcc)) [Value.nilFunc] 74
      have e : (u.alloc (.cells #[.int .i64 xa, .int .i64 xb, .int .u8 xc, .string xs, .bool xd, .int .i64 xe, .int .i64 xf] TAcc)).heap.size = u.heap.size + 1 := by simp
      rw [e] at this
      exact this
    clear hb3 RC2 RK2
    generalize (u.alloc (.cells #[.int .i64 xa, .int .i64 xb, .int .u8 xc, .string xs, .bool xd, .int .i64 xe, .int .i64 xf] TAcc)).alloc (.cells #[Value.nilFunc] 74) = W3 at HB3 RC3 RK3 RF3 ⊢
    have hug : Hid (w.heap.size ≤ u.heap.size) := HB2.out.size
    obtain ⟨b3, hb3⟩ : ∃ b3, b3 = u.heap.size + 1 := ⟨_, rfl⟩
    have HB3G : Hid (g + 1 < b3) := by have := HU2.out; show _ < _; omega
    rw [← hb3] at RF3 ⊢
    have f0 : W3.cell? ⟨b3, 0, none⟩ = some .nilFunc := RF3.out.cell 0
    have f1 := RF3.out.frozen 0
    obtain ⟨a5, ha5⟩ : ∃ a5, a5 = u.heap.size := ⟨_, rfl⟩
    rw [← ha5]
    clear hb3 ha5 hug HB2 HU2
    go_upto_region 7 with (fail)
    have HU4 : Hid (Ub (W3.setCell ⟨b3, 0, none⟩ (undV g (g + 1) b3)) c g (g + 1) b3 code 30 TInt 74) := ⟨RC3.out.otherCell b3 0 _ (by have := HB3G.out; omega), RK3.out.otherCell b3 0 _ (by have := HB3G.out; omega), RF3.out.setCell 0 _⟩
    have HB4 : Hid (Below w.heap.size w (W3.setCell ⟨b3, 0, none⟩ (undV g (g + 1) b3))) := Keeps.belowT HB3.out ((Keeps.refl (fun j => j = b3) W3).setCell b3 0 _ (.inl rfl)) (fun j hj => by have h1 := HB3G.out; have h2 := HG.out; omega) HB3.out.size
    unfold undV at HU4 HB4
    generalize W3.setCell ⟨b3, 0, none⟩ (.func (.func 74) #[] #[.pointer (some ⟨g, 0, none⟩), .pointer (some ⟨g + 1, 0, none⟩), .pointer (some ⟨b3, 0, none⟩)]) = W4 at HU4 HB4 ⊢
    clear f0 f1 RC3 RK3 RF3 HB3
    have H4 := Lib.hid (H.out.later HB4.out)
    have g0 : W4.cell? ⟨g, 0, none⟩ = some (.pointer (some ⟨c, 0, none⟩)) := HU4.out.a.cell 0
    have KK := Lib.hid (keys_c H4.out)
    obtain ⟨ta, tc, rfl⟩ := own_form H4.out.own
    go_wp2_with fail
    refine KK.out.mono ?_
    rintro e w' ⟨rfl, rfl⟩
    go_wp2_with fail
    clear KK g0
    have hlu : Hid (w.heap.size ≤ W4.heap.size) := HB4.out.size
    go_loopg [8, 25] K.length (fun kx s8 s25 wr => ∃ (i : Nat) (vv : Value), s25 = .int .i64 (i : Int) ∧ vv = s8 ∧ i ≤ K.length ∧ Hid (wr.ownsRow W4.heap.size TInt 1 vv ((K.take i).filter (fun b => underM M code 9 b)).length (((K.take i).filter (fun b => underM M code 9 b)).map iv)) ∧ Hid (Below W4.heap.size W4 wr) ∧ K.length ≤ i + kx)
    case atStart => exact ⟨0, _, rfl, rfl, Nat.zero_le _, World.ownsRow_nil _ _ _ _, Below.refl _ _, by omega⟩
    case round =>
      obtain ⟨i, vv, rfl, hvv, hi9, HO, HBr, hkx⟩ := hrel
      have HFL : Hid (((K.take i).filter (fun b => underM M code 9 b)).length ≤ i) := Nat.le_trans (List.length_filter_le _ _) (by rw [List.length_take]; omega)
      obtain ⟨L9, hL9⟩ : ∃ L9, L9 = (K.take i).filter (fun b => underM M code 9 b) := ⟨_, rfl⟩
      rw [← hL9] at HO HFL
      have HL9 := Lib.hid hL9
      clear hL9
      obtain ⟨a9, c9, rfl⟩ := own_form HO.out
      subst hvv
      by_cases hlt : i < K.length
      · have HR := Lib.hid (H4.out.later HBr.out)
        have HUr := Lib.hid (HU4.out.later HBr.out)
        obtain ⟨ga, cap, hsl, hc⟩ := own_at HR.out.own hlt
        cases hsl
        obtain ⟨b, hb⟩ : ∃ b, b = K[i] := ⟨_, rfl⟩
        rw [← hb] at hc
        have hmem : (M b).isSome = true := (HR.out.ks.mem b).1 (by rw [hb]; exact List.getElem_mem hlt)
        have hIb : I64 b := by
          cases hm : M b with
          | none => rw [hm] at hmem; cases hmem
          | some p => have := HW.out.code b p hm; unfold I64; omega
        have HT : Hid ((K.take (i + 1)).filter (fun b => underM M code 9 b) = L9 ++ (if underM M code 9 b = true then [b] else [])) := by
          show _ = _
          rw [List.take_succ_eq_append_getElem hlt, List.filter_append, ← HL9.out, ← hb]
          congr 1
          by_cases hu : underM M code 9 b = true
          · simp [hu]
          · simp [hu]
        have KU := Lib.hid (und_c (n := n) HW.out code g (g + 1) b3 _ _ _ 8 b wr HR.out HUr.out hIb (fun p hp => (HW.out.deep b p hp).2))
        obtain ⟨r, hr⟩ : ∃ r, r = underM M code 9 b := ⟨_, rfl⟩
        rw [← hr] at HT
        rw [show (8 : Nat) + 1 = 9 from rfl, ← hr] at KU
        have f3 : wr.cell? ⟨b3, 0, none⟩ = some (.func (.func 74) #[] #[.pointer (some ⟨g, 0, none⟩), .pointer (some ⟨g + 1, 0, none⟩), .pointer (some ⟨b3, 0, none⟩)]) := HUr.out.f.cell 0
        have j0 : (0 : Int) ≤ (i : Int) := by omega
        have j1 : (i : Int) < (K.length : Int) := by omega
        clear hb hmem hIb hr
        go_wp2_with fail
        refine KU.out.mono ?_
        rintro e w5 ⟨rfl, hb5⟩
        have HO5 := Lib.hid (own_later HO.out hb5)
        have HB5 : Hid (Below W4.heap.size W4 w5) := HBr.out.trans (hb5.mono HBr.out.size)
        clear hb5 KU f3 hc
        cases r with
        | false =>
          go_wp2_with fail
          go_roundg (K.length - (i + 1))
          case measure => omega
          case rel => exact ⟨i + 1, _, by simp, rfl, by omega, by show World.ownsRow _ _ _ _ _ _ _; rw [HT.out]; simpa using HO5.out, HB5, by omega⟩
        | true =>
          have hs5 := HB5.out.size
          have hfl := HFL.out
          go_wp2_with (at_builtin; refine wpList_append_own_at _ rfl _ _ TInts rfl W4.heap.size TInt i0 (.int .i64 0) 1 8 Try.underlying82 hi0 hz0 hz1 hz2 rfl (by decide) _ _ _ rfl (HO5.out.alloc _) ⟨w5.heap.size, 0, none⟩ 1 1 [iv b] rfl rfl (cell_one_new _ _ _) (by simp [Value.oneCell']) (by unfold maxLen; omega) (by omega) (by simp; omega) ?_)
          intro v' w6 hown hgrow hnil hat
          obtain ⟨a8, c8, rfl⟩ := own_form hown
          have HB6 : Hid (Below W4.heap.size W4 w6) := (HB5.out.alloc hs5 _).grown hgrow (by simp; omega) (fun j hj => (HO5.out.lt j hj).1)
          have HO6 := Lib.hid hown
          clear hown hgrow hnil hat
          go_wp2_with fail
          go_roundg (K.length - (i + 1))
          case measure => omega
          case rel => exact ⟨i + 1, _, by simp, rfl, by omega, by show World.ownsRow _ _ _ _ _ _ _; rw [HT.out]; simpa using HO6.out, HB6, by omega⟩
      · obtain rfl : i = K.length := by omega
        have HO9 : Hid (wr.ownsRow w.heap.size TInt 1 (.slice a9 L9.length c9) (undL M K code).length ((undL M K code).map iv)) := by
          have e : undL M K code = L9 := by rw [HL9.out, List.take_length]; rfl
          rw [e]
          exact own_lower HO.out hlu.out
        have HB9 : Hid (Below w.heap.size w wr) := HB4.out.trans (HBr.out.mono hlu.out)
        clear hkx hlt hi9
        go_wp2_with fail
        go_ret
        exact ⟨_, rfl, HO9.out, HB9.out⟩
set_option maxRecDepth 100000 in
theorem under_nil (w : World) (k : Int) : Calls Try.prog 39 #[.pointer none, .int .i64 k] w fun e w' => e = .returned (.slice none 0 0) ∧ Below w.heap.size w w' := by
  have KG := Lib.hid get_nil
  unfold Acc.zero Acc.val at KG
  simp only at KG
  go_enter Try.func39, Try.ntmps39
  go_wp2_with fail
  have HB1 : Hid (Below w.heap.size w ((w.alloc (.cells #[.pointer none] 30)).alloc (.cells #[.int .i64 k] TInt))) := ((Below.refl _ w).alloc (Nat.le_refl _) _).alloc (by simp) _
  refine (KG.out _ k).mono ?_
  rintro e u ⟨rfl, hb⟩
  have HB3 : Hid (Below w.heap.size w (u.alloc (.cells #[.int .i64 0, .int .i64 0, .int .u8 0, .string ⟨#[]⟩, .bool false, .int .i64 0, .int .i64 0] TAcc))) := (HB1.out.trans (hb.mono HB1.out.size)).alloc (Nat.le_trans HB1.out.size hb.size) _
  clear hb HB1
  go_wp2_with fail
  go_ret
  exact ⟨rfl, HB3.out⟩
set_option maxRecDepth 100000 in
theorem under_zero (h : Rw w c TCh [.map none, .slice none 0 0]) (k : Int) : Calls Try.prog 39 #[.pointer (some ⟨c, 0, none⟩), .int .i64 k] w fun e w' => e = .returned (.slice none 0 0) ∧ Below w.heap.size w w' := by
  have KG : Hid (∀ u, Below w.heap.size w u → Calls Try.prog 38 #[.pointer (some ⟨c, 0, none⟩), .int .i64 k] u fun e w' => e = .returned (.tuple #[Acc.zero.val, .bool false]) ∧ Below u.heap.size u w') := fun u hu => get_zero (h.later hu) k
  unfold Acc.zero Acc.val at KG
  simp only at KG
  clear h
  go_enter Try.func39, Try.ntmps39
  go_wp2_with fail
  have HB1 : Hid (Below w.heap.size w ((w.alloc (.cells #[.pointer (some ⟨c, 0, none⟩)] 30)).alloc (.cells #[.int .i64 k] TInt))) := ((Below.refl _ w).alloc (Nat.le_refl _) _).alloc (by simp) _
  refine (KG.out _ HB1.out).mono ?_
  rintro e u ⟨rfl, hb⟩
  have HB3 : Hid (Below w.heap.size w (u.alloc (.cells #[.int .i64 0, .int .i64 0, .int .u8 0, .string ⟨#[]⟩, .bool false, .int .i64 0, .int .i64 0] TAcc))) := (HB1.out.trans (hb.mono HB1.out.size)).alloc (Nat.le_trans HB1.out.size hb.size) _
  clear hb HB1 KG
  go_wp2_with fail
  go_ret
  exact ⟨rfl, HB3.out⟩
end
end Go.Proofs.Ytnblilonjpfdnaa.Ch
end
