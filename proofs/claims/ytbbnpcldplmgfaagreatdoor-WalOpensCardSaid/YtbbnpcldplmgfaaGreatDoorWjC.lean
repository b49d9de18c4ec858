/- Joined: WlRef WlRef2 WlRef3 WlRef4 WlPut. -/
import Derived.Test.YtbbnpcldplmgfaaGreatDoorWjA
import Derived.BigQuiet
import Derived.Test.YtbbnpcldplmgfaaGreatDoorSfRMany
import Derived.Deep.RegionHeld3
import Derived.Deep.DeepCutAuto
section
namespace Go.Proofs.YtbbnpcldplmgfaaGreatDoor.Wl
open Go Go.RowKit Dv Rf Shf Rk
open Tal (Strs bas)
abbrev TLg : TypeId := 34
/-- Both halves' sectors, and what can be read of them. -/
structure Lg (base : Nat) (w : World) (vA vB : Value) (A B : List Rk.Sec) : Prop where
  a : Ow base w vA A
  b : Ow base w vB B
structure Rd (n : Nat) (A B : List Rk.Sec) (SA SB : Ld) : Prop where
  a : Loaded A SA
  b : Loaded B SB
  la : A.length = n
  lb : B.length = n
  n9 : n ≤ 1000
  n1 : 1 ≤ n
theorem own_len {base : Nat} {w : World} {v : Value} {L : List Rk.Sec} {n : Nat} (h : Ow base w v L) (e : L.length = n) : ∃ a c, v = .slice a n c := by
  subst e
  exact own_slice h
theorem Lg.later {base : Nat} {w w' : World} {vA vB : Value} {A B : List Rk.Sec} (h : Lg base w vA vB A B) (k : Below w.heap.size w w') : Lg base w' vA vB A B := ⟨h.a.later k, h.b.later k⟩
theorem rtexts_o {base : Nat} {w : World} {v : Value} {L : List Rk.Sec} {S : Ld} (h : Ow base w v L) (hl : L.length ≤ 1000) (hS : Loaded L S) :
    Calls Tryz.prog 37 #[v] w fun e w' => ∃ v', e = .returned (.tuple #[v', .int .u64 (S.first : Int), .int .i64 (S.e : Int)]) ∧ Ow w.heap.size w' v' S.T ∧ Below w.heap.size w w' := by
  obtain ⟨A, cap, rfl, hc, hs, _, _⟩ := h.form
  have := rtexts_c w A cap (bas L) hs (by rw [bas_len]; exact hl) (by rw [bas_len]; exact hc)
  rw [bas_len, lists_bas] at this
  refine this.mono fun e w' hr => ?_
  obtain ⟨v', s, rfl, h1, h2, h3⟩ := hr
  obtain rfl := h1.one hS
  exact ⟨v', rfl, h2, h3⟩
section
variable {base : Nat} {w : World} {vA vB : Value} {A B : List Rk.Sec} {SA SB : Ld} {n : Nat}
set_option maxRecDepth 100000 in
set_option maxHeartbeats 1600000 in
theorem second_c (h : Lg base w vA vB A B) (hr : Rd n A B SA SB) :
    Calls Tryz.prog 40 #[.agg #[vA, vB]] w fun e w' => e = .returned (.bool (decide (SA.first < SB.first))) ∧ Below w.heap.size w w' := by
  have H := Lib.hid h
  obtain ⟨aA, cA, rfl⟩ := own_len h.a hr.la
  obtain ⟨aB, cB, rfl⟩ := own_len h.b hr.lb
  have KA : Hid (∀ u, Below w.heap.size w u → Calls Tryz.prog 37 #[.slice aA n cA] u fun e w' => ∃ v', e = .returned (.tuple #[v', .int .u64 (SA.first : Int), .int .i64 (SA.e : Int)]) ∧ Ow u.heap.size w' v' SA.T ∧ Below u.heap.size u w') := fun u hu => rtexts_o (H.out.later hu).a (by rw [hr.la]; exact hr.n9) hr.a
  have KB : Hid (∀ u, Below w.heap.size w u → Calls Tryz.prog 37 #[.slice aB n cB] u fun e w' => ∃ v', e = .returned (.tuple #[v', .int .u64 (SB.first : Int), .int .i64 (SB.e : Int)]) ∧ Ow u.heap.size w' v' SB.T ∧ Below u.heap.size u w') := fun u hu => rtexts_o (H.out.later hu).b (by rw [hr.lb]; exact hr.n9) hr.b
  obtain ⟨fA, hfA⟩ : ∃ fA : Nat, fA = SA.first := ⟨_, rfl⟩
  obtain ⟨fB, hfB⟩ : ∃ fB : Nat, fB = SB.first := ⟨_, rfl⟩
  rw [← hfA, ← hfB]
  rw [← hfA] at KA
  rw [← hfB] at KB
  have hb1 : Hid (Below w.heap.size w (w.alloc (.cells #[.slice aA n cA, .slice aB n cB] TLg))) := (Below.refl _ w).alloc (Nat.le_refl _) _
  have HCC : Hid ((w.alloc (.cells #[.slice aA n cA, .slice aB n cB] TLg)).cell? ⟨w.heap.size, 1, none⟩ = some (.slice aB n cB)) := by show _ = _; simp [go_sem]
  clear h hr hfA hfB
  go_enter Tryz.func40, Tryz.ntmps40
  go_wp2_with fail
  refine (KA.out _ hb1.out).mono ?_
  rintro e w1 ⟨v1, rfl, ho, hb⟩
  obtain ⟨a1, c1, rfl⟩ := own_slice ho
  have HB1 : Hid (Below w.heap.size w w1) := hb1.out.trans (hb.mono hb1.out.size)
  have cB1 : w1.cell? ⟨w.heap.size, 1, none⟩ = some (.slice aB n cB) := (hb.cell (p := ⟨w.heap.size, 1, none⟩) (by simp)).trans HCC.out
  clear ho hb
  go_wp2_with fail
  refine (KB.out _ HB1.out).mono ?_
  rintro e w2 ⟨v2, rfl, ho, hb⟩
  obtain ⟨a2, c2, rfl⟩ := own_slice ho
  have HB2 : Hid (Below w.heap.size w w2) := HB1.out.trans (hb.mono HB1.out.size)
  clear ho hb cB1
  go_wp2_with fail
  go_ret
  exact ⟨rfl, HB2.out⟩
set_option maxRecDepth 100000 in
set_option maxHeartbeats 1600000 in
theorem half_c (h : Lg base w vA vB A B) (hr : Rd n A B SA SB) :
    Calls Tryz.prog 38 #[.agg #[vA, vB]] w fun e w' => e = .returned (if SA.first < SB.first then vB else vA) ∧ Below w.heap.size w w' := by
  have H := Lib.hid h
  obtain ⟨aA, cA, rfl⟩ := own_len h.a hr.la
  obtain ⟨aB, cB, rfl⟩ := own_len h.b hr.lb
  have KS : Hid (∀ u, Below w.heap.size w u → Calls Tryz.prog 40 #[.agg #[.slice aA n cA, .slice aB n cB]] u fun e w' => e = .returned (.bool (decide (SA.first < SB.first))) ∧ Below u.heap.size u w') := fun u hu => second_c (H.out.later hu) hr
  have hb1 : Hid (Below w.heap.size w (w.alloc (.cells #[.slice aA n cA, .slice aB n cB] TLg))) := (Below.refl _ w).alloc (Nat.le_refl _) _
  have HC0 : Hid ((w.alloc (.cells #[.slice aA n cA, .slice aB n cB] TLg)).cell? ⟨w.heap.size, 0, none⟩ = some (.slice aA n cA)) := by show _ = _; simp [go_sem]
  have HC1 : Hid ((w.alloc (.cells #[.slice aA n cA, .slice aB n cB] TLg)).cell? ⟨w.heap.size, 1, none⟩ = some (.slice aB n cB)) := by show _ = _; simp [go_sem]
  obtain ⟨d, hd⟩ : ∃ d : Bool, d = decide (SA.first < SB.first) := ⟨_, rfl⟩
  have HD : Hid ((if SA.first < SB.first then Value.slice aB n cB else .slice aA n cA) = if d then Value.slice aB n cB else .slice aA n cA) := by
    show _ = _
    by_cases h : SA.first < SB.first
    · rw [if_pos h, hd, decide_eq_true h]; rfl
    · rw [if_neg h, hd, decide_eq_false h]; rfl
  rw [HD.out]
  rw [← hd] at KS
  clear h hr hd HD
  go_enter Tryz.func38, Tryz.ntmps38
  go_wp2_with fail
  refine (KS.out _ hb1.out).mono ?_
  rintro e w1 ⟨rfl, hb⟩
  have HB1 : Hid (Below w.heap.size w w1) := hb1.out.trans (hb.mono hb1.out.size)
  have cA1 : w1.cell? ⟨w.heap.size, 0, none⟩ = some (.slice aA n cA) := (hb.cell (p := ⟨w.heap.size, 0, none⟩) (by simp)).trans HC0.out
  have cB1 : w1.cell? ⟨w.heap.size, 1, none⟩ = some (.slice aB n cB) := (hb.cell (p := ⟨w.heap.size, 1, none⟩) (by simp)).trans HC1.out
  clear hb
  cases d with
  | true =>
    go_wp2_with fail
    go_ret
    exact ⟨rfl, HB1.out⟩
  | false =>
    go_wp2_with fail
    go_ret
    exact ⟨rfl, HB1.out⟩
end
end Go.Proofs.YtbbnpcldplmgfaaGreatDoor.Wl
end
section
namespace Go.Proofs.YtbbnpcldplmgfaaGreatDoor.Wl
open Go Go.RowKit Dv Rf Shf Rk
open Tal (Strs bas)
/-- The log's sectors, and what they say. -/
def lgL (A B : List Rk.Sec) (SA SB : Ld) : List Rk.Sec := if SA.first < SB.first then B else A
def lgS (SA SB : Ld) : Ld := if SA.first < SB.first then SB else SA
section
variable {base : Nat} {w : World} {vA vB : Value} {A B : List Rk.Sec} {SA SB : Ld} {n : Nat}
theorem Rd.l (hr : Rd n A B SA SB) : Loaded (lgL A B SA SB) (lgS SA SB) := by unfold lgL lgS; split; exact hr.b; exact hr.a
theorem Rd.ll (hr : Rd n A B SA SB) : (lgL A B SA SB).length = n := by unfold lgL; split; exact hr.lb; exact hr.la
theorem log_o (h : Lg base w vA vB A B) (hr : Rd n A B SA SB) : ∃ aH cH, Ow base w (.slice aH n cH) (lgL A B SA SB) ∧
    (∀ u, Below w.heap.size w u → Calls Tryz.prog 38 #[.agg #[vA, vB]] u fun e w' => e = .returned (.slice aH n cH) ∧ Below u.heap.size u w') ∧
    (∀ u, Below w.heap.size w u → Calls Tryz.prog 37 #[.slice aH n cH] u fun e w' => ∃ v', e = .returned (.tuple #[v', .int .u64 ((lgS SA SB).first : Int), .int .i64 ((lgS SA SB).e : Int)]) ∧ Ow u.heap.size w' v' (lgS SA SB).T ∧ Below u.heap.size u w') := by
  have ho : Ow base w (if SA.first < SB.first then vB else vA) (lgL A B SA SB) := by unfold lgL; split; exact h.b; exact h.a
  obtain ⟨aH, cH, hv⟩ := own_len ho hr.ll
  refine ⟨aH, cH, by rw [← hv]; exact ho, fun u hu => ?_, fun u hu => ?_⟩
  · rw [← hv]; exact half_c (h.later hu) hr
  · rw [← hv]; exact rtexts_o (ho.later hu) (by rw [hr.ll]; exact hr.n9) hr.l
set_option maxRecDepth 100000 in
set_option maxHeartbeats 1600000 in
theorem rage_c (h : Lg base w vA vB A B) (hr : Rd n A B SA SB) :
    Calls Tryz.prog 18 #[.agg #[vA, vB]] w fun e w' => e = .returned (.int .u64 ((lgS SA SB).first : Int)) ∧ Below w.heap.size w w' := by
  obtain ⟨aH, cH, _, k1, k2⟩ := log_o h hr
  have K1 := Lib.hid k1
  have K2 := Lib.hid k2
  obtain ⟨aA, cA, rfl⟩ := own_len h.a hr.la
  obtain ⟨aB, cB, rfl⟩ := own_len h.b hr.lb
  have hb1 : Hid (Below w.heap.size w (w.alloc (.cells #[.slice aA n cA, .slice aB n cB] TLg))) := (Below.refl _ w).alloc (Nat.le_refl _) _
  obtain ⟨S, hS⟩ : ∃ S, S = lgS SA SB := ⟨_, rfl⟩
  rw [← hS] at K2 ⊢
  clear h hr k1 k2 hS
  go_enter Tryz.func18, Tryz.ntmps18
  go_wp2_with fail
  refine (K1.out _ hb1.out).mono ?_
  rintro e w1 ⟨rfl, hb⟩
  have HB1 : Hid (Below w.heap.size w w1) := hb1.out.trans (hb.mono hb1.out.size)
  clear hb
  go_wp2_with fail
  refine (K2.out _ HB1.out).mono ?_
  rintro e w2 ⟨v2, rfl, ho, hb⟩
  obtain ⟨a2, c2, rfl⟩ := own_slice ho
  have HB2 : Hid (Below w.heap.size w w2) := HB1.out.trans (hb.mono HB1.out.size)
  clear ho hb
  go_wp2_with fail
  go_ret
  exact ⟨rfl, HB2.out⟩
set_option maxRecDepth 100000 in
set_option maxHeartbeats 1600000 in
theorem rroom_c (h : Lg base w vA vB A B) (hr : Rd n A B SA SB) :
    Calls Tryz.prog 20 #[.agg #[vA, vB]] w fun e w' => e = .returned (.int .i64 ((n - (lgS SA SB).e : Nat) : Int)) ∧ Below w.heap.size w w' := by
  obtain ⟨aH, cH, _, k1, k2⟩ := log_o h hr
  have K1 := Lib.hid k1
  have K2 := Lib.hid k2
  have hle : (lgS SA SB).e ≤ n := by have := hr.l.r.fine.le; rwa [hr.ll] at this
  have hn := hr.n9
  obtain ⟨aA, cA, rfl⟩ := own_len h.a hr.la
  obtain ⟨aB, cB, rfl⟩ := own_len h.b hr.lb
  have hb1 : Hid (Below w.heap.size w (w.alloc (.cells #[.slice aA n cA, .slice aB n cB] TLg))) := (Below.refl _ w).alloc (Nat.le_refl _) _
  have HC0 : Hid ((w.alloc (.cells #[.slice aA n cA, .slice aB n cB] TLg)).cell? ⟨w.heap.size, 0, none⟩ = some (.slice aA n cA)) := by show _ = _; simp [go_sem]
  obtain ⟨S, hS⟩ : ∃ S, S = lgS SA SB := ⟨_, rfl⟩
  rw [← hS] at K2 hle ⊢
  have HE : Hid ((n : Int) - (S.e : Int) = ((n - S.e : Nat) : Int)) := by show _ = _; omega
  clear h hr k1 k2 hS
  go_enter Tryz.func20, Tryz.ntmps20
  go_wp2_with fail
  refine (K1.out _ hb1.out).mono ?_
  rintro e w1 ⟨rfl, hb⟩
  have HB1 : Hid (Below w.heap.size w w1) := hb1.out.trans (hb.mono hb1.out.size)
  have c1 : w1.cell? ⟨w.heap.size, 0, none⟩ = some (.slice aA n cA) := (hb.cell (p := ⟨w.heap.size, 0, none⟩) (by simp)).trans HC0.out
  have hlt : w.heap.size < w1.heap.size := by have := hb.size; simp at this; omega
  have HLT := Lib.hid hlt
  clear hb hlt
  go_wp2_with fail
  refine (K2.out _ HB1.out).mono ?_
  rintro e w2 ⟨v2, rfl, ho, hb⟩
  obtain ⟨a2, c2, rfl⟩ := own_slice ho
  have HB2 : Hid (Below w.heap.size w w2) := HB1.out.trans (hb.mono HB1.out.size)
  have c2' : w2.cell? ⟨w.heap.size, 0, none⟩ = some (.slice aA n cA) := (hb.cell (p := ⟨w.heap.size, 0, none⟩) HLT.out).trans c1
  clear ho hb c1
  go_wp2_with fail
  go_ret
  rw [← HE.out]
  exact ⟨rfl, HB2.out⟩
end
/-- What a transaction takes. -/
def cost (l : List Rk.Sec) : Nat := Sf.many (Tal.row (bas l)).length
def Small (l : List Rk.Sec) : Prop := l.length ≤ 10 ∧ ∀ p ∈ l, p.length ≤ 400
theorem small_total : ∀ l : List Rk.Sec, (∀ p ∈ l, p.length ≤ 400) → Tal.total (bas l) ≤ l.length * 400 := by
  intro l
  induction l with
  | nil => intro _; simp [Tal.total, bas]
  | cons p m ih =>
    intro h
    have h1 := h p (by simp)
    have h2 := ih fun q hq => h q (by simp [hq])
    have e : Tal.total (bas (p :: m)) = p.length + Tal.total (bas m) := by simp [Tal.total, bas, ByteArray.size]
    rw [e, List.length_cons]
    omega
end Go.Proofs.YtbbnpcldplmgfaaGreatDoor.Wl
end
section
namespace Go.Proofs.YtbbnpcldplmgfaaGreatDoor.Wl
open Go Go.RowKit Dv Rf Shf Rk
open Tal (Strs bas)
theorem Small.row {l : List Rk.Sec} (h : Small l) : (Tal.row (bas l)).length ≤ 4200 := by
  obtain ⟨h1, h2⟩ := h
  have h3 := small_total l h2
  have h4 := Tal.txts_len (bas l) fun s hs => by
    obtain ⟨p, hp, rfl⟩ := List.mem_map.1 hs
    have := h2 p hp
    show p.toArray.size < _
    simp; omega
  have h5 := (Ta.num_len (bas l).length (by rw [bas_len]; omega)).1
  rw [bas_len] at h4
  unfold Tal.row
  rw [List.length_append]
  omega
theorem Small.total {l : List Rk.Sec} (h : Small l) : Tal.total (bas l) ≤ 4000 := by
  have h3 := small_total l h.2
  have := h.1
  omega
theorem trow_c {l : List Rk.Sec} (h : Small l) {w : World} {a : Option Addr} (c : Nat) (hs : Strs w a (bas l)) :
    Calls Tryz.prog 48 #[.slice a l.length c] w (Tal.PutRes (Tal.row (bas l)) w) := by
  have := Tal.row_c w a c (bas l) hs (by rw [bas_len]; have := h.1; omega) (by have := h.total; omega)
  rwa [bas_len] at this
theorem rrow_c {l : List Rk.Sec} (h : Small l) {w : World} {a : Option Addr} (c : Nat) (hs : Strs w a (bas l)) :
    Calls Tryz.prog 50 #[.slice a l.length c] w (Tal.PutRes (Tal.row (bas l)) w) := by
  have := Tal.refRow_c w a c (bas l) hs (by rw [bas_len]; have := h.1; omega) (by have := h.total; omega)
  rwa [bas_len] at this
set_option maxHeartbeats 800000 in
theorem cost_c {l : List Rk.Sec} (h : Small l) {w : World} {a : Option Addr} (c : Nat) (hs : Strs w a (bas l)) :
    Calls Tryz.prog 21 #[.slice a l.length c] w fun e w' => e = .returned (.int .i64 (cost l : Int)) ∧ Below w.heap.size w w' := by
  have KT := Lib.hid (trow_c h c hs)
  have hr := h.row
  have hl := h.1
  obtain ⟨s, hse⟩ : ∃ s, s = (⟨(Tal.row (bas l)).toArray⟩ : ByteArray) := ⟨_, rfl⟩
  have hsl : s.size = (Tal.row (bas l)).length := by rw [hse]; rfl
  have HC : Hid (cost l = Sf.many ((s.size : Int)).toNat) := by show _ = _; rw [hsl]; rfl
  have KT1 : Hid (Calls Tryz.prog 48 #[.slice a l.length c] w fun e w' => e = .returned (.string s) ∧ Below w.heap.size w w') := by rw [hse]; exact KT.out
  have hs9 : s.size ≤ 4200 := by omega
  clear h hs hse hsl hr KT
  go_enter Tryz.func21, Tryz.ntmps21
  go_wp2_with fail
  refine KT1.out.mono ?_
  rintro e w1 ⟨rfl, hb⟩
  have HB := Lib.hid hb
  have KM := Lib.hid (Shf.many_c (s.size : Int) w1 (by omega) (by omega))
  clear hb
  go_wp2_with fail
  refine KM.out.mono ?_
  rintro e w' ⟨rfl, rfl⟩
  go_wp2_with fail
  go_ret
  rw [HC.out]
  exact ⟨rfl, HB.out⟩
set_option maxHeartbeats 800000 in
theorem rcost_c {l : List Rk.Sec} (h : Small l) {w : World} {a : Option Addr} (c : Nat) (hs : Strs w a (bas l)) :
    Calls Tryz.prog 22 #[.slice a l.length c] w fun e w' => e = .returned (.int .i64 (cost l : Int)) ∧ Below w.heap.size w w' := by
  have KT := Lib.hid (rrow_c h c hs)
  have hr := h.row
  have hl := h.1
  obtain ⟨s, hse⟩ : ∃ s, s = (⟨(Tal.row (bas l)).toArray⟩ : ByteArray) := ⟨_, rfl⟩
  have hsl : s.size = (Tal.row (bas l)).length := by rw [hse]; rfl
  have HC : Hid (cost l = Sf.many ((s.size : Int)).toNat) := by show _ = _; rw [hsl]; rfl
  have KT1 : Hid (Calls Tryz.prog 50 #[.slice a l.length c] w fun e w' => e = .returned (.string s) ∧ Below w.heap.size w w') := by rw [hse]; exact KT.out
  have hs9 : s.size ≤ 4200 := by omega
  clear h hs hse hsl hr KT
  go_enter Tryz.func22, Tryz.ntmps22
  go_wp2_with fail
  refine KT1.out.mono ?_
  rintro e w1 ⟨rfl, hb⟩
  have HB := Lib.hid hb
  have KM := Lib.hid (Shf.rmany_c (s.size : Int) w1 (by omega))
  clear hb
  go_wp2_with fail
  refine KM.out.mono ?_
  rintro e w2 ⟨rfl, hb⟩
  have HB2 : Hid (Below w.heap.size w w2) := HB.out.trans (hb.mono HB.out.size)
  clear hb
  go_wp2_with fail
  go_ret
  rw [HC.out]
  exact ⟨rfl, HB2.out⟩
theorem rtop_o {base : Nat} {w : World} {v : Value} {L : List Rk.Sec} (h : Ow base w v L) (hl : L.length ≤ 1000) :
    Calls Tryz.prog 83 #[v] w fun e w' => e = .returned (.int .u64 (Sf.top L : Int)) ∧ Below w.heap.size w w' := by
  obtain ⟨A, cap, rfl, hc, hs, _, _⟩ := h.form
  have := rtop_c w A cap (bas L) hs (by rw [bas_len]; omega)
  rwa [bas_len, show (bas L).map (fun s => s.data.toList) = L from lists_bas L] at this
set_option maxRecDepth 100000 in
set_option maxHeartbeats 1600000 in
theorem top_o {base : Nat} {w : World} {vA vB : Value} {A B : List Rk.Sec} {SA SB : Ld} {n : Nat} (h : Lg base w vA vB A B) (hr : Rd n A B SA SB) :
    Calls Tryz.prog 63 #[.agg #[vA, vB]] w fun e w' => e = .returned (.int .u64 ((max (Sf.top A) (Sf.top B) : Nat) : Int)) ∧ Below w.heap.size w w' := by
  have H := Lib.hid h
  obtain ⟨aA, cA, rfl⟩ := own_len h.a hr.la
  obtain ⟨aB, cB, rfl⟩ := own_len h.b hr.lb
  have KA : Hid (∀ u, Below w.heap.size w u → Calls Tryz.prog 83 #[.slice aA n cA] u fun e w' => e = .returned (.int .u64 (Sf.top A : Int)) ∧ Below u.heap.size u w') := fun u hu => rtop_o (H.out.later hu).a (by rw [hr.la]; exact hr.n9)
  have KB : Hid (∀ u, Below w.heap.size w u → Calls Tryz.prog 83 #[.slice aB n cB] u fun e w' => e = .returned (.int .u64 (Sf.top B : Int)) ∧ Below u.heap.size u w') := fun u hu => rtop_o (H.out.later hu).b (by rw [hr.lb]; exact hr.n9)
  have HM : Hid (max (Sf.top A : Int) (Sf.top B : Int) = ((max (Sf.top A) (Sf.top B) : Nat) : Int)) := by show _ = _; omega
  have hb1 : Hid (Below w.heap.size w (w.alloc (.cells #[.slice aA n cA, .slice aB n cB] TLg))) := (Below.refl _ w).alloc (Nat.le_refl _) _
  have hc0 : (w.alloc (.cells #[.slice aA n cA, .slice aB n cB] TLg)).cell? ⟨w.heap.size, 0, none⟩ = some (.slice aA n cA) := by simp [go_sem]
  have hc1 : (w.alloc (.cells #[.slice aA n cA, .slice aB n cB] TLg)).cell? ⟨w.heap.size, 1, none⟩ = some (.slice aB n cB) := by simp [go_sem]
  have HSZ : Hid (w.heap.size < (w.alloc (.cells #[.slice aA n cA, .slice aB n cB] TLg)).heap.size) := by show _ < _; simp
  clear h hr
  go_enter Tryz.func63, Tryz.ntmps63
  go_wp2_with fail
  generalize w.alloc (.cells #[.slice aA n cA, .slice aB n cB] TLg) = w1 at *
  go_region_held3 (fun u => u.cell? ⟨w.heap.size, 0, none⟩ = some (.slice aA n cA) ∧ u.cell? ⟨w.heap.size, 1, none⟩ = some (.slice aB n cB)) (go_keep) ((first | (go_at_call 83; have hq := HQ2.out; refine (KB.out _ HQ2.out).mono ?_; rintro e w3 ⟨rfl, hb⟩; have HQ3 : Hid (Below w.heap.size w w3) := HQ2.out.trans (hb.mono HQ2.out.size); have d0' := (hb.cell (p := ⟨w.heap.size, 0, none⟩) HL2.out).trans d0; have d1' := (hb.cell (p := ⟨w.heap.size, 1, none⟩) HL2.out).trans d1; clear hb hq) | (go_at_call 83; refine (KA.out _ hb1.out.drew).mono ?_; rintro e w2 ⟨rfl, hb⟩; have HQ2 : Hid (Below w.heap.size w w2) := hb1.out.drew.trans (hb.mono hb1.out.drew.size); have d0 : w2.cell? ⟨w.heap.size, 0, none⟩ = some (.slice aA n cA) := (hb.cell (p := ⟨w.heap.size, 0, none⟩) HSZ.out).trans hc0; have d1 : w2.cell? ⟨w.heap.size, 1, none⟩ = some (.slice aB n cB) := (hb.cell (p := ⟨w.heap.size, 1, none⟩) HSZ.out).trans hc1; have HL2 : Hid (w.heap.size < w2.heap.size) := Nat.lt_of_lt_of_le HSZ.out hb.size; clear hb)))
  go_wp2_with fail
  go_ret
  rw [← HM.out]
  exact ⟨rfl, HQ3.out⟩
end Go.Proofs.YtbbnpcldplmgfaaGreatDoor.Wl
end
section
namespace Go.Proofs.YtbbnpcldplmgfaaGreatDoor.Wl
open Go Go.RowKit Dv Rf Shf Rk
open Tal (Strs bas)
theorem top_lt (L : List Rk.Sec) : Sf.top L < 18446744073709551616 := by
  have : Sf.top L ≤ 18446744073709551615 := top_le fun x _ => by
    unfold Lf.ends
    split
    · rename_i h
      have := Lf.num_lt8 (x.take 8) (by simp; omega)
      show Lf.num (x.take 8) ≤ _
      omega
    · exact Nat.zero_le _
  omega
/-- May pieces be? -/
def mayM (T : Nat) : Int := if 9223372036854775807 ≤ T then 6 else 0
set_option maxRecDepth 100000 in
set_option maxHeartbeats 1600000 in
theorem may_c {base : Nat} {w : World} {vA vB : Value} {A B : List Rk.Sec} {SA SB : Ld} {n : Nat} (h : Lg base w vA vB A B) (hr : Rd n A B SA SB) {l : List Rk.Sec} (hl : Small l) {a : Option Addr} (c : Nat) (hs : Strs w a (bas l)) :
    Calls Tryz.prog 36 #[.agg #[vA, vB], .slice a l.length c] w fun e w' => e = .returned (.int .i64 (mayM (max (Sf.top A) (Sf.top B)))) ∧ Below w.heap.size w w' := by
  have H := Lib.hid h
  obtain ⟨T, hT⟩ : ∃ T, T = max (Sf.top A) (Sf.top B) := ⟨_, rfl⟩
  have KT : Hid (∀ u, Below w.heap.size w u → Calls Tryz.prog 63 #[.agg #[vA, vB]] u fun e w' => e = .returned (.int .u64 (T : Int)) ∧ Below u.heap.size u w') := fun u hu => by rw [hT]; exact top_o (H.out.later hu) hr
  have KR : Hid (∀ u, Below w.heap.size w u → Calls Tryz.prog 50 #[.slice a l.length c] u (Tal.PutRes (Tal.row (bas l)) u)) := fun u hu => rrow_c hl c (hs.later hu)
  rw [← hT]
  obtain ⟨aA, cA, rfl⟩ := own_len h.a hr.la
  obtain ⟨aB, cB, rfl⟩ := own_len h.b hr.lb
  have hrow := hl.row
  have hl10 := hl.1
  have HS := Lib.hid hs
  have HSM := Lib.hid hl.2
  have hb1 : Hid (Below w.heap.size w (w.alloc (.cells #[.slice aA n cA, .slice aB n cB] TLg))) := (Below.refl _ w).alloc (Nat.le_refl _) _
  have HC0 : Hid ((w.alloc (.cells #[.slice aA n cA, .slice aB n cB] TLg)).cell? ⟨w.heap.size, 0, none⟩ = some (.slice aA n cA)) := by show _ = _; simp [go_sem]
  have HC1 : Hid ((w.alloc (.cells #[.slice aA n cA, .slice aB n cB] TLg)).cell? ⟨w.heap.size, 1, none⟩ = some (.slice aB n cB)) := by show _ = _; simp [go_sem]
  have HSZ : Hid (w.heap.size < (w.alloc (.cells #[.slice aA n cA, .slice aB n cB] TLg)).heap.size) := by show _ < _; simp
  obtain ⟨s, hse⟩ : ∃ s, s = (⟨(Tal.row (bas l)).toArray⟩ : ByteArray) := ⟨_, rfl⟩
  have hsl : s.size = (Tal.row (bas l)).length := by rw [hse]; rfl
  have KR1 : Hid (∀ u, Below w.heap.size w u → Calls Tryz.prog 50 #[.slice a l.length c] u fun e w' => e = .returned (.string s) ∧ Below u.heap.size u w') := fun u hu => by rw [hse]; exact KR.out u hu
  have hs9 : s.size ≤ 4200 := by omega
  have hT9 : T < 18446744073709551616 := by
    have h1 := top_lt A
    have h2 := top_lt B
    omega
  obtain ⟨m, hm⟩ : ∃ m, m = T / 2 := ⟨_, rfl⟩
  have HW2 : Hid (IntKind.u64.wrap ((T : Int) / 2) = (m : Int)) := by
    show _ = _
    rw [IntWalk.u64_in _ ⟨by omega, by omega⟩]
    omega
  have HD1 : Hid (9223372036854775808 ≤ T → decide ((4611686018427387904 : Int) ≤ (m : Int)) = true) := fun h => decide_eq_true (by omega)
  have HD2 : Hid (T < 9223372036854775808 → decide ((4611686018427387904 : Int) ≤ (m : Int)) = false) := fun h => decide_eq_false (by omega)
  have HW3 : Hid (¬ 9223372036854775808 ≤ T → IntKind.u64.wrap ((T : Int) + 1) = ((T + 1 : Nat) : Int)) := fun h => by
    rw [IntWalk.u64_in _ ⟨by omega, by omega⟩]
    omega
  have HE1 : Hid (T + 1 = 9223372036854775808 → (((T + 1 : Nat) : Int) == 9223372036854775808) = true) := fun h => by rw [beq_iff_eq]; omega
  have HE2 : Hid (¬ T + 1 = 9223372036854775808 → (((T + 1 : Nat) : Int) == 9223372036854775808) = false) := fun h => by rw [beq_eq_false_iff_ne]; omega
  clear h hr hT hs hl hse hsl hrow KR hT9 hm
  go_enter Tryz.func36, Tryz.ntmps36
  go_wp2_with fail
  generalize w.alloc (.cells #[.slice aA n cA, .slice aB n cB] TLg) = w1 at *
  go_loopg [5] l.length (fun kx s5 wr => ∃ i : Nat, s5 = .int .i64 (i : Int) ∧ i ≤ l.length ∧ Hid (wr = w1) ∧ l.length ≤ i + kx)
  case atStart => exact ⟨0, rfl, Nat.zero_le _, rfl, by omega⟩
  case round =>
    obtain ⟨i, rfl, hi9, HW, hkx⟩ := hrel
    obtain rfl := HW.out
    by_cases hlt : i < l.length
    · obtain ⟨bb, off, rfl, hbl, hc⟩ := (HS.out.later hb1.out) i (by rw [bas_len]; exact hlt)
      have e1 : (bas l)[i]'(by rw [bas_len]; exact hlt) = ⟨(l[i]'hlt).toArray⟩ := by simp [bas]
      rw [e1] at hc
      have hz := HSM.out _ (List.getElem_mem hlt)
      obtain ⟨t, hte⟩ : ∃ t, t = (⟨(l[i]'hlt).toArray⟩ : ByteArray) := ⟨_, rfl⟩
      have htl : t.size = (l[i]'hlt).length := by rw [hte]; rfl
      rw [← hte] at hc
      rw [← htl] at hz
      clear e1 hte htl hbl
      have j0 : (0 : Int) ≤ (i : Int) := by omega
      have j1 : (i : Int) < (l.length : Int) := by omega
      have hshort : ¬ (60000 : Int) < (t.size : Int) := by omega
      go_wp2_with fail
      go_roundg (l.length - (i + 1))
      case measure => omega
      case rel => exact ⟨i + 1, by simp, by omega, rfl, by omega⟩
    · clear hkx
      go_wp2_with fail
      refine (KR1.out _ hb1.out).mono ?_
      rintro e w2 ⟨rfl, hb⟩
      have HB2 : Hid (Below w.heap.size w w2) := hb1.out.trans (hb.mono hb1.out.size)
      have c0 : w2.cell? ⟨w.heap.size, 0, none⟩ = some (.slice aA n cA) := (hb.cell (p := ⟨w.heap.size, 0, none⟩) HSZ.out).trans HC0.out
      have c1 : w2.cell? ⟨w.heap.size, 1, none⟩ = some (.slice aB n cB) := (hb.cell (p := ⟨w.heap.size, 1, none⟩) HSZ.out).trans HC1.out
      have HL2 : Hid (w.heap.size < w2.heap.size) := Nat.lt_of_lt_of_le HSZ.out hb.size
      have hl5 : ¬ (98304 : Int) < (s.size : Int) := by omega
      clear hb
      go_wp2_with fail
      refine (KT.out _ HB2.out).mono ?_
      rintro e w3 ⟨rfl, hb⟩
      have HB3 : Hid (Below w.heap.size w w3) := HB2.out.trans (hb.mono HB2.out.size)
      have d0 : w3.cell? ⟨w.heap.size, 0, none⟩ = some (.slice aA n cA) := (hb.cell (p := ⟨w.heap.size, 0, none⟩) HL2.out).trans c0
      have d1 : w3.cell? ⟨w.heap.size, 1, none⟩ = some (.slice aB n cB) := (hb.cell (p := ⟨w.heap.size, 1, none⟩) HL2.out).trans c1
      have HL3 : Hid (w.heap.size < w3.heap.size) := Nat.lt_of_lt_of_le HL2.out hb.size
      clear hb c0 c1 hl5 hs9 hlt hi9 hl10
      iterate 6 (first | go_step | go_simp)
      rw [HW2.out]
      by_cases hbig : 9223372036854775808 ≤ T
      · have dbig : decide ((4611686018427387904 : Int) ≤ (m : Int)) = true := HD1.out hbig
        have HZ : Hid (mayM T = 6) := by show _ = _; unfold mayM; rw [if_pos (by omega)]
        clear hbig
        go_wp2_with fail
        go_ret
        rw [HZ.out]
        exact ⟨rfl, HB3.out⟩
      · have dbig : decide ((4611686018427387904 : Int) ≤ (m : Int)) = false := HD2.out (by omega)
        have HNB := Lib.hid hbig
        have HT3 : Hid (w.heap.size < w3.heap.size) := HL3
        clear hbig
        go_wp2_with fail
        refine (KT.out _ HB3.out).mono ?_
        rintro e w4 ⟨rfl, hb⟩
        have HB4 : Hid (Below w.heap.size w w4) := HB3.out.trans (hb.mono HB3.out.size)
        clear hb dbig d0 d1
        iterate 3 (first | go_step | go_simp)
        rw [HW3.out HNB.out]
        by_cases he : T + 1 = 9223372036854775808
        · have hbe : (((T + 1 : Nat) : Int) == 9223372036854775808) = true := HE1.out he
          have HZ : Hid (mayM T = 6) := by show _ = _; unfold mayM; rw [if_pos (by omega)]
          clear he
          go_wp2_with fail
          go_ret
          rw [HZ.out]
          exact ⟨rfl, HB4.out⟩
        · have hbe : (((T + 1 : Nat) : Int) == 9223372036854775808) = false := HE2.out he
          have HZ : Hid (mayM T = 0) := by show _ = _; unfold mayM; rw [if_neg (by have := HNB.out; omega)]
          clear he
          go_wp2_with fail
          go_ret
          rw [HZ.out]
          exact ⟨rfl, HB4.out⟩
end Go.Proofs.YtbbnpcldplmgfaaGreatDoor.Wl
end
section
namespace Go.Proofs.YtbbnpcldplmgfaaGreatDoor.Wl
open Go Go.RowKit Dv Rf Shf Rk
open Tal (Strs bas)
/-- What a put leaves of the document's log. -/
def RlRes (base : Nat) (P : Nat → Prop) (A B : List Rk.Sec) (z : Int) (w : World) (e : Ending) (w' : World) : Prop := ∃ vA vB, e = .returned (.tuple #[.agg #[vA, vB], .int .i64 z]) ∧ Lg base w' vA vB A B ∧ (∀ j, vA.ownBlock = some j ∨ vB.ownBlock = some j → P j ∨ w.heap.size ≤ j) ∧ Below w.heap.size w w'
/-- The two boxes of a function that hands out a log. -/
structure Bxs (w u : World) (vA vB : Value) : Prop where
  q : Rw u w.heap.size TLg [vA, vB]
  o : Rw u (w.heap.size + 1) TLg [.slice none 0 0, .slice none 0 0]
  b : Below w.heap.size w u
theorem Bxs.new (w : World) (vA vB : Value) : Bxs w ((w.alloc (.cells #[vA, vB] TLg)).alloc (.cells #[.slice none 0 0, .slice none 0 0] TLg)) vA vB := by
  have h1 : Rw (w.alloc (.cells #[vA, vB] TLg)) w.heap.size TLg [vA, vB] := Rw.new w [vA, vB] TLg
  have h2 := Rw.new (w.alloc (.cells #[vA, vB] TLg)) [.slice none 0 0, .slice none 0 0] TLg
  have hz : (w.alloc (.cells #[vA, vB] TLg)).heap.size = w.heap.size + 1 := by simp
  rw [hz] at h2
  exact ⟨h1.later ((Below.refl _ _).alloc (Nat.le_refl _) _), h2, ((Below.refl _ w).alloc (Nat.le_refl _) _).alloc (by simp) _⟩
theorem Bxs.later {w u u' : World} {vA vB : Value} (h : Bxs w u vA vB) (k : Below u.heap.size u u') : Bxs w u' vA vB := ⟨h.q.later k, h.o.later k, h.b.trans (k.mono h.b.size)⟩
theorem Bxs.put {w u : World} {vA vB : Value} (h : Bxs w u vA vB) (x y : Value) : Below w.heap.size w ((u.setCell ⟨w.heap.size + 1, 0, none⟩ x).setCell ⟨w.heap.size + 1, 1, none⟩ y) := (h.b.setCell (by simp) _).setCell (by simp) _
theorem Bxs.own {base : Nat} {w u : World} {vA vB v : Value} {N : List Rk.Sec} (h : Bxs w u vA vB) (ho : Ow base u v N) (x y : Value) : Ow base ((u.setCell ⟨w.heap.size + 1, 0, none⟩ x).setCell ⟨w.heap.size + 1, 1, none⟩ y) v N :=
  ho.keeps (T := fun j => j = w.heap.size + 1) (((Keeps.refl (fun j => j = w.heap.size + 1) u).setCell _ 0 _ (.inl rfl)).setCell _ 1 _ (.inl rfl)) fun j hj e => own_type ho h.o (by decide) (e ▸ hj)
/-- The half that is put to. -/
def pick (b : Bool) (A B : List Rk.Sec) : List Rk.Sec := if b then B else A
set_option maxRecDepth 100000 in
set_option maxHeartbeats 1600000 in
theorem put_o {base : Nat} {P : Nat → Prop} {w : World} {vA vB : Value} {A B : List Rk.Sec} {SA SB : Ld} {n : Nat} (h : Lg base w vA vB A B) (hr : Rd n A B SA SB) (hbase : base ≤ w.heap.size) (hP : ∀ j, vA.ownBlock = some j ∨ vB.ownBlock = some j → P j) {l : List Rk.Sec} (hl : Small l) {a : Option Addr} (c : Nat) (hs : Strs w a (bas l)) (b : Bool) (p : Nat) (hp : p ≤ n)
    (T : Nat) (hT : T = max (Sf.top A) (Sf.top B)) (hT9 : T < 9223372036854775807) (N : List Rk.Sec) (z : Int) (hN : rputM (pick b A B) p (T + 1) (Tal.row (bas l)) = (N, z)) :
    Calls Tryz.prog 39 #[.agg #[vA, vB], .bool b, .int .i64 (p : Int), .slice a l.length c] w (RlRes base P (if b then A else N) (if b then N else B) z w) := by
  have H := Lib.hid h
  have KT : Hid (∀ u, Below w.heap.size w u → Calls Tryz.prog 63 #[.agg #[vA, vB]] u fun e w' => e = .returned (.int .u64 (T : Int)) ∧ Below u.heap.size u w') := fun u hu => by rw [hT]; exact top_o (H.out.later hu) hr
  have KR : Hid (∀ u, Below w.heap.size w u → Calls Tryz.prog 50 #[.slice a l.length c] u (Tal.PutRes (Tal.row (bas l)) u)) := fun u hu => rrow_c hl c (hs.later hu)
  have hrow := hl.row
  have KP : Hid (∀ u, Below w.heap.size w u → Calls Tryz.prog 65 #[if b then vB else vA, .int .i64 (p : Int), .int .u64 ((T : Int) + 1), .string ⟨(Tal.row (bas l)).toArray⟩] u fun e w' => ∃ v, e = .returned (.tuple #[v, .int .i64 z]) ∧ Ow base w' v N ∧ (z ≠ 0 → v = if b then vB else vA) ∧ (∀ j, v.ownBlock = some j → P j ∨ w.heap.size ≤ j) ∧ Below u.heap.size u w') := fun u hu => by
    have ho : Ow base u (if b then vB else vA) (pick b A B) := by
      cases b
      · exact (H.out.later hu).a
      · exact (H.out.later hu).b
    have hlen : (pick b A B).length = n := by cases b; exact hr.la; exact hr.lb
    have := rput_c u _ base _ ho (by rw [hlen]; exact hr.n9) (by rw [hlen]; exact hr.n1) p (T + 1) (by rw [hlen]; exact hp) (by omega) ⟨(Tal.row (bas l)).toArray⟩ (by show (Tal.row (bas l)).length ≤ _; omega)
    rw [show ((T + 1 : Nat) : Int) = (T : Int) + 1 by omega] at this
    refine this.mono fun e w' hq => ?_
    have hq2 : RpRes (if b then vB else vA) (pick b A B) (N, z) u e w' := by rw [← hN]; exact hq
    obtain ⟨hb, hq3⟩ := hq2
    rcases hq3 with ⟨h1, h2, rfl⟩ | ⟨h1, v', rfl, h3⟩
    · refine ⟨_, rfl, ?_, fun _ => rfl, fun j hj => .inl (hP j (by cases b; exact .inl hj; exact .inr hj)), hb⟩
      have h2 : N = pick b A B := h2
      rw [h2]
      exact ho.later hb
    · have h1 : z = 0 := h1
      subst h1
      exact ⟨v', rfl, h3.lower (Nat.le_trans hbase hu.size), fun h => absurd rfl h, fun j hj => .inr (Nat.le_trans hu.size (h3.lt j hj).1), hb⟩
  have HT9 : Hid (True → (T : Int) + 1 ≤ 9223372036854775807) := fun _ => by omega
  obtain ⟨s, hse⟩ : ∃ s, s = (⟨(Tal.row (bas l)).toArray⟩ : ByteArray) := ⟨_, rfl⟩
  have hsl : s.size = (Tal.row (bas l)).length := by rw [hse]; rfl
  unfold Tal.PutRes at KR
  rw [← hse] at KR KP
  obtain ⟨aA, cA, rfl⟩ := own_len h.a hr.la
  obtain ⟨aB, cB, rfl⟩ := own_len h.b hr.lb
  have X0 := Lib.hid (Bxs.new w (.slice aA n cA) (.slice aB n cB))
  have hp0 : (0 : Int) ≤ (p : Int) := by omega
  have HP0 := Lib.hid hP
  clear h hr hbase hl hs hp hT hP hT9 hN hrow hse hsl hp0
  go_enter Tryz.func39, Tryz.ntmps39
  cases b with
  | true =>
    go_wp2_with fail
    generalize (w.alloc (.cells #[.slice aA n cA, .slice aB n cB] TLg)).alloc (.cells #[.slice none 0 0, .slice none 0 0] TLg) = w0 at *
    refine (KT.out _ X0.out.b).mono ?_
    rintro e w1 ⟨rfl, hb⟩
    have X1 := Lib.hid (X0.out.later hb)
    have hT9 := HT9.out trivial
    clear hb
    iterate 6 (first | go_step | go_simp)
    clear hT9
    go_wp2_with fail
    refine (KR.out _ X1.out.b).mono ?_
    rintro e w2 ⟨rfl, hb⟩
    have X2 := Lib.hid (X1.out.later hb)
    have KP2 := Lib.hid (KP.out _ X2.out.b)
    clear hb
    go_wp2_with fail
    refine KP2.out.mono ?_
    rintro e w3 ⟨v, rfl, ho, hv, hpp, hb⟩
    have X3 := Lib.hid (X2.out.later hb)
    have HO := Lib.hid ho
    obtain ⟨av, cv, rfl⟩ := own_slice ho
    have HPV := Lib.hid hv
    have q0 : w3.cell? ⟨w.heap.size, 0, none⟩ = some (.slice aA n cA) := X3.out.q.cell 0
    have q1 : w3.cell? ⟨w.heap.size, 1, none⟩ = some (.slice aB n cB) := X3.out.q.cell 1
    have o0 : w3.cell? ⟨w.heap.size + 1, 0, none⟩ = some (.slice none 0 0) := X3.out.o.cell 0
    have o1 : w3.cell? ⟨w.heap.size + 1, 1, none⟩ = some (.slice none 0 0) := X3.out.o.cell 1
    have f0 := X3.out.o.frozen 0
    have f1 := X3.out.o.frozen 1
    have HPV2 := Lib.hid hpp
    clear hb ho hv hpp
    by_cases hz : z = 0
    · have HZ := Lib.hid hz
      have e0 : (z != 0) = false := by simp [hz]
      clear hz
      go_wp2_with fail
      have HRW : Hid (Rw ((w3.setCell ⟨w.heap.size + 1, 0, none⟩ (.slice aA n cA)).setCell ⟨w.heap.size + 1, 1, none⟩ (.slice av N.length cv)) (w.heap.size + 1) TLg [.slice aA n cA, .slice av N.length cv]) := (X3.out.o.setCell 0 _).setCell 1 _
      have HLG : Hid (Lg base ((w3.setCell ⟨w.heap.size + 1, 0, none⟩ (.slice aA n cA)).setCell ⟨w.heap.size + 1, 1, none⟩ (.slice av N.length cv)) (.slice aA n cA) (.slice av N.length cv) _ _) := ⟨(H.out.later (X3.out.put _ _)).a, X3.out.own HO.out _ _⟩
      have HBW : Hid (Below w.heap.size w ((w3.setCell ⟨w.heap.size + 1, 0, none⟩ (.slice aA n cA)).setCell ⟨w.heap.size + 1, 1, none⟩ (.slice av N.length cv))) := X3.out.put _ _
      generalize (w3.setCell ⟨w.heap.size + 1, 0, none⟩ (.slice aA n cA)).setCell ⟨w.heap.size + 1, 1, none⟩ (.slice av N.length cv) = W at HRW HLG HBW ⊢
      have r0 : W.cell? ⟨w.heap.size + 1, 0, none⟩ = some (.slice aA n cA) := HRW.out.cell 0
      have r1 : W.cell? ⟨w.heap.size + 1, 1, none⟩ = some (.slice av N.length cv) := HRW.out.cell 1
      refine bodyPost_ret (v := .tuple #[.agg #[.slice aA n cA, .slice av N.length cv], .int .i64 0]) (by simp [results, Tryz.results39, go_sem, r0, r1]) rfl ?_
      rw [HZ.out]
      exact ⟨_, _, rfl, HLG.out, fun j hj => hj.elim (fun h => .inl (HP0.out j (.inl h))) (fun h => HPV2.out j h), HBW.out⟩
    · have e0 : (z != 0) = true := by simpa using hz
      have hv := HPV.out hz
      clear hz
      go_wp2_with fail
      have HRW : Hid (Rw ((w3.setCell ⟨w.heap.size + 1, 0, none⟩ (.slice aA n cA)).setCell ⟨w.heap.size + 1, 1, none⟩ (.slice aB n cB)) (w.heap.size + 1) TLg [.slice aA n cA, .slice aB n cB]) := (X3.out.o.setCell 0 _).setCell 1 _
      have HLG : Hid (Lg base ((w3.setCell ⟨w.heap.size + 1, 0, none⟩ (.slice aA n cA)).setCell ⟨w.heap.size + 1, 1, none⟩ (.slice aB n cB)) (.slice aA n cA) (.slice aB n cB) _ _) := ⟨(H.out.later (X3.out.put _ _)).a, X3.out.own (hv ▸ HO.out) _ _⟩
      have HBW : Hid (Below w.heap.size w ((w3.setCell ⟨w.heap.size + 1, 0, none⟩ (.slice aA n cA)).setCell ⟨w.heap.size + 1, 1, none⟩ (.slice aB n cB))) := X3.out.put _ _
      generalize (w3.setCell ⟨w.heap.size + 1, 0, none⟩ (.slice aA n cA)).setCell ⟨w.heap.size + 1, 1, none⟩ (.slice aB n cB) = W at HRW HLG HBW ⊢
      have r0 : W.cell? ⟨w.heap.size + 1, 0, none⟩ = some (.slice aA n cA) := HRW.out.cell 0
      have r1 : W.cell? ⟨w.heap.size + 1, 1, none⟩ = some (.slice aB n cB) := HRW.out.cell 1
      refine bodyPost_ret (v := .tuple #[.agg #[.slice aA n cA, .slice aB n cB], .int .i64 z]) (by simp [results, Tryz.results39, go_sem, r0, r1]) rfl ?_
      exact ⟨_, _, rfl, HLG.out, fun j hj => .inl (HP0.out j hj), HBW.out⟩
  | false =>
    go_wp2_with fail
    generalize (w.alloc (.cells #[.slice aA n cA, .slice aB n cB] TLg)).alloc (.cells #[.slice none 0 0, .slice none 0 0] TLg) = w0 at *
    refine (KT.out _ X0.out.b).mono ?_
    rintro e w1 ⟨rfl, hb⟩
    have X1 := Lib.hid (X0.out.later hb)
    have hT9 := HT9.out trivial
    clear hb
    iterate 6 (first | go_step | go_simp)
    clear hT9
    go_wp2_with fail
    refine (KR.out _ X1.out.b).mono ?_
    rintro e w2 ⟨rfl, hb⟩
    have X2 := Lib.hid (X1.out.later hb)
    have KP2 := Lib.hid (KP.out _ X2.out.b)
    clear hb
    go_wp2_with fail
    refine KP2.out.mono ?_
    rintro e w3 ⟨v, rfl, ho, hv, hpp, hb⟩
    have X3 := Lib.hid (X2.out.later hb)
    have HO := Lib.hid ho
    obtain ⟨av, cv, rfl⟩ := own_slice ho
    have HPV := Lib.hid hv
    have q0 : w3.cell? ⟨w.heap.size, 0, none⟩ = some (.slice aA n cA) := X3.out.q.cell 0
    have q1 : w3.cell? ⟨w.heap.size, 1, none⟩ = some (.slice aB n cB) := X3.out.q.cell 1
    have o0 : w3.cell? ⟨w.heap.size + 1, 0, none⟩ = some (.slice none 0 0) := X3.out.o.cell 0
    have o1 : w3.cell? ⟨w.heap.size + 1, 1, none⟩ = some (.slice none 0 0) := X3.out.o.cell 1
    have f0 := X3.out.o.frozen 0
    have f1 := X3.out.o.frozen 1
    have HPV2 := Lib.hid hpp
    clear hb ho hv hpp
    by_cases hz : z = 0
    · have HZ := Lib.hid hz
      have e0 : (z != 0) = false := by simp [hz]
      clear hz
      go_wp2_with fail
      have HRW : Hid (Rw ((w3.setCell ⟨w.heap.size + 1, 0, none⟩ (.slice av N.length cv)).setCell ⟨w.heap.size + 1, 1, none⟩ (.slice aB n cB)) (w.heap.size + 1) TLg [.slice av N.length cv, .slice aB n cB]) := (X3.out.o.setCell 0 _).setCell 1 _
      have HLG : Hid (Lg base ((w3.setCell ⟨w.heap.size + 1, 0, none⟩ (.slice av N.length cv)).setCell ⟨w.heap.size + 1, 1, none⟩ (.slice aB n cB)) (.slice av N.length cv) (.slice aB n cB) _ _) := ⟨X3.out.own HO.out _ _, (H.out.later (X3.out.put _ _)).b⟩
      have HBW : Hid (Below w.heap.size w ((w3.setCell ⟨w.heap.size + 1, 0, none⟩ (.slice av N.length cv)).setCell ⟨w.heap.size + 1, 1, none⟩ (.slice aB n cB))) := X3.out.put _ _
      generalize (w3.setCell ⟨w.heap.size + 1, 0, none⟩ (.slice av N.length cv)).setCell ⟨w.heap.size + 1, 1, none⟩ (.slice aB n cB) = W at HRW HLG HBW ⊢
      have r0 : W.cell? ⟨w.heap.size + 1, 0, none⟩ = some (.slice av N.length cv) := HRW.out.cell 0
      have r1 : W.cell? ⟨w.heap.size + 1, 1, none⟩ = some (.slice aB n cB) := HRW.out.cell 1
      refine bodyPost_ret (v := .tuple #[.agg #[.slice av N.length cv, .slice aB n cB], .int .i64 0]) (by simp [results, Tryz.results39, go_sem, r0, r1]) rfl ?_
      rw [HZ.out]
      exact ⟨_, _, rfl, HLG.out, fun j hj => hj.elim (fun h => HPV2.out j h) (fun h => .inl (HP0.out j (.inr h))), HBW.out⟩
    · have e0 : (z != 0) = true := by simpa using hz
      have hv := HPV.out hz
      clear hz
      go_wp2_with fail
      have HRW : Hid (Rw ((w3.setCell ⟨w.heap.size + 1, 0, none⟩ (.slice aA n cA)).setCell ⟨w.heap.size + 1, 1, none⟩ (.slice aB n cB)) (w.heap.size + 1) TLg [.slice aA n cA, .slice aB n cB]) := (X3.out.o.setCell 0 _).setCell 1 _
      have HLG : Hid (Lg base ((w3.setCell ⟨w.heap.size + 1, 0, none⟩ (.slice aA n cA)).setCell ⟨w.heap.size + 1, 1, none⟩ (.slice aB n cB)) (.slice aA n cA) (.slice aB n cB) _ _) := ⟨X3.out.own (hv ▸ HO.out) _ _, (H.out.later (X3.out.put _ _)).b⟩
      have HBW : Hid (Below w.heap.size w ((w3.setCell ⟨w.heap.size + 1, 0, none⟩ (.slice aA n cA)).setCell ⟨w.heap.size + 1, 1, none⟩ (.slice aB n cB))) := X3.out.put _ _
      generalize (w3.setCell ⟨w.heap.size + 1, 0, none⟩ (.slice aA n cA)).setCell ⟨w.heap.size + 1, 1, none⟩ (.slice aB n cB) = W at HRW HLG HBW ⊢
      have r0 : W.cell? ⟨w.heap.size + 1, 0, none⟩ = some (.slice aA n cA) := HRW.out.cell 0
      have r1 : W.cell? ⟨w.heap.size + 1, 1, none⟩ = some (.slice aB n cB) := HRW.out.cell 1
      refine bodyPost_ret (v := .tuple #[.agg #[.slice aA n cA, .slice aB n cB], .int .i64 z]) (by simp [results, Tryz.results39, go_sem, r0, r1]) rfl ?_
      exact ⟨_, _, rfl, HLG.out, fun j hj => .inl (HP0.out j hj), HBW.out⟩
end Go.Proofs.YtbbnpcldplmgfaaGreatDoor.Wl
end
