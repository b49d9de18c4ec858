/- Package drive: a drive and the document's, side by side. -/
import Derived.Test.YthoafaaemikiaaaDvSm
namespace Go.Proofs.Ythoafaaemikiaaa.Dv
open Go Go.RowKit Rf
def Two (b : Nat) (w : World) (gd gq : Nat) (x y : Dr) : Prop := ∃ S1 S2 : Nat → Prop, Os S1 w gd x ∧ Rs S2 w gq y ∧ (∀ k, S1 k → ¬ S2 k) ∧ (∀ k, S1 k → b ≤ k) ∧ (∀ k, S2 k → b ≤ k)
/-- And an act beside them. -/
def Tb (b : Nat) (w : World) (gd gq : Nat) (x y : Dr) (kb : Nat) (cs : List Value) : Prop := ∃ S1 S2 : Nat → Prop, Os S1 w gd x ∧ Rs S2 w gq y ∧ (∀ k, S1 k → ¬ S2 k) ∧ (∀ k, S1 k → b ≤ k) ∧ (∀ k, S2 k → b ≤ k) ∧ Rw w kb TA cs ∧ ¬ S1 kb ∧ ¬ S2 kb
section
variable {b : Nat} {w w' : World} {gd gq : Nat} {x x' y : Dr} {kb : Nat} {cs : List Value}
theorem Tb.two (h : Tb b w gd gq x y kb cs) : Two b w gd gq x y := by
  obtain ⟨S1, S2, h1, h2, h3, h4, h5, _⟩ := h
  exact ⟨S1, S2, h1, h2, h3, h4, h5⟩
theorem Two.later (h : Two b w gd gq x y) (hk : Below w.heap.size w w') : Two b w' gd gq x y := by
  obtain ⟨S1, S2, h1, h2, h3, h4, h5⟩ := h
  exact ⟨S1, S2, h1.later hk, h2.later hk, h3, h4, h5⟩
theorem Tb.drew (h : Tb b w gd gq x y kb cs) : Tb b w.drew gd gq x y kb cs := by
  obtain ⟨S1, S2, h1, h2, h3, h4, h5, h6, h7, h8⟩ := h
  exact ⟨S1, S2, h1.later ((Below.refl _ w).drew), h2.later ((Below.refl _ w).drew), h3, h4, h5, h6, h7, h8⟩
theorem Two.boxed (h : Two b w gd gq x y) (hk : Below w.heap.size w w') (hr : Rw w' w.heap.size TA cs) : Tb b w' gd gq x y w.heap.size cs := by
  obtain ⟨S1, S2, h1, h2, h3, h4, h5⟩ := h
  exact ⟨_, _, h1.lt.later hk, h2.lt.later hk, fun k h h' => h3 k h.1 h'.1, fun k h => h4 k h.1, fun k h => h5 k h.1, hr, fun h => by have := h.2; omega, fun h => by have := h.2; omega⟩
theorem Tb.cell (h : Tb b w gd gq x y kb cs) (o : Nat) : w.cell? ⟨kb, o, none⟩ = cs[o]? := by
  obtain ⟨S1, S2, h1, h2, h3, h4, h5, h6, _⟩ := h
  exact h6.cell o
theorem Tb.callD (h : Tb b w gd gq x y kb cs) (hb : b ≤ w.heap.size) {f : FuncId} {args : Array Value} {E : Value} (K : ∀ S, Os S w gd x → Calls Try.prog f args w fun e w' => e = .returned E ∧ After S w gd x' w') :
    Calls Try.prog f args w fun e w' => e = .returned E ∧ Tb b w' gd gq x' y kb cs ∧ Below b w w' := by
  obtain ⟨S1, S2, h1, h2, h3, h4, h5, h6, h7, h8⟩ := h
  have hkl := h6.lt
  refine (K _ h1.lt).mono ?_
  rintro e w' ⟨he, ha, hk⟩
  refine ⟨he, ⟨_, _, ha, h2.lt.keep hk fun k h h' => h3 k h'.1 h.1, fun k h h' => ?_, fun k h => ?_, fun k h => h5 k h.1, h6.keeps hk fun h => h7 h.1, fun h => ?_, fun h => h8 h.1⟩, hk.below (fun k h => h4 k h.1) hb⟩
  · rcases h with h | h
    · exact h3 k h.1 h'.1
    · have := h'.2; omega
  · rcases h with h | h
    · exact h4 k h.1
    · omega
  · rcases h with h | h
    · exact h7 h.1
    · omega
theorem Tb.callQ (h : Tb b w gd gq x y kb cs) (hb : b ≤ w.heap.size) {f : FuncId} {args : Array Value} {E : Value} (K : ∀ S, Rs S w gq y → Calls Try.prog f args w fun e w' => e = .returned E ∧ AfterR S w gq x' w') :
    Calls Try.prog f args w fun e w' => e = .returned E ∧ Tb b w' gd gq x x' kb cs ∧ Below b w w' := by
  obtain ⟨S1, S2, h1, h2, h3, h4, h5, h6, h7, h8⟩ := h
  have hkl := h6.lt
  refine (K _ h2.lt).mono ?_
  rintro e w' ⟨he, ha, hk⟩
  refine ⟨he, ⟨_, _, h1.lt.keep hk fun k h h' => h3 k h.1 h'.1, ha, fun k h h' => ?_, fun k h => h4 k h.1, fun k h => ?_, h6.keeps hk fun h => h8 h.1, fun h => h7 h.1, fun h => ?_⟩, hk.below (fun k h => h5 k h.1) hb⟩
  · rcases h' with h' | h'
    · exact h3 k h.1 h'.1
    · have := h.2; omega
  · rcases h with h | h
    · exact h5 k h.1
    · omega
  · rcases h with h | h
    · exact h8 h.1
    · omega
def CopyTwo (b gq : Nat) (x y : Dr) (w : World) (e : Ending) (w' : World) : Prop := ∃ g, e = .returned (.pointer (some ⟨g, 0, none⟩)) ∧ Two b w' g gq x y ∧ Below b w w'
theorem Two.copy (h : Two b w gd gq x y) (hb : b ≤ w.heap.size) (hx : x.Ok) (hP : x.P.length ≤ 100000) : Calls Try.prog 16 #[.pointer (some ⟨gd, 0, Option.none⟩)] w (CopyTwo b gq x y w) := by
  obtain ⟨S1, S2, h1, h2, h3, h4, h5⟩ := h
  refine (os_copy h1 hx hP).mono ?_
  rintro e w' ⟨g, he, ho, hk⟩
  exact ⟨g, he, ⟨_, _, ho, h2.lt.later hk, fun k h h' => by have := h'.2; omega, fun k h => by omega, fun k h => h5 k h.1⟩, hk.mono hb⟩
theorem Two.same (h : Two b w gd gq x x) (hb : b ≤ w.heap.size) (hx : x.Ok) (hP : x.P.length ≤ 100000) : Calls Try.prog 17 #[.pointer (some ⟨gd, 0, Option.none⟩), .pointer (some ⟨gq, 0, Option.none⟩)] w fun e w' => e = .returned (.bool true) ∧ Two b w' gd gq x x ∧ Below b w w' := by
  have h' := h
  obtain ⟨S1, S2, h1, h2, h3, h4, h5⟩ := h
  exact (same_c S1 S2 gd gq x w h1 h2 hx hP).mono fun e w' hr => ⟨hr.1, h'.later hr.2, hr.2.mono hb⟩
theorem Two.far (h : Two b w gd gq x y) (hb : b ≤ w.heap.size) (hx : x.Ok) (m : Nat) (hm : x.D.length = m) : Calls Try.prog 18 #[.pointer (some ⟨gd, 0, Option.none⟩), .int .i64 (m : Int)] w fun e w' => e = .returned (.tuple #[.string ⟨#[]⟩, .int .i64 2]) ∧ Below b w w' := by
  obtain ⟨S1, S2, ⟨bv, bd, pv, fv, h1, _⟩, _⟩ := h
  refine (read_c gd bv bd pv fv x (m : Int) w h1 hx).mono fun e w' hr => ?_
  unfold RdRes at hr
  have e1 : x.read (m : Int) = ([], 2) := by unfold Dr.read; rw [if_pos (by omega)]
  rw [e1] at hr
  exact ⟨hr.1, hr.2.mono hb⟩
theorem fcell_fuse (y : Dr) (n : Int) : fcell (y.fuse n).F = max n (-1) := by
  unfold Dr.fuse
  by_cases h : n < 0
  · simp only [if_pos h]; show (-1 : Int) = _; omega
  · simp only [if_neg h]; show ((n.toNat : Nat) : Int) = _; omega
theorem Tb.fuseQ (h : Tb b w gd gq x y kb cs) (hb : b ≤ w.heap.size) (n : Int) : Tb b (w.setCell ⟨gq, 4, none⟩ (.int .i64 (max n (-1)))) gd gq x (y.fuse n) kb cs ∧ Below b w (w.setCell ⟨gq, 4, none⟩ (.int .i64 (max n (-1)))) := by
  obtain ⟨S1, S2, h1, ⟨nv, sv, av, ov, h2, h2'⟩, h3, h4, h5, h6, h7, h8⟩ := h
  have hk : Keeps (fun j => j = gq) w (w.setCell ⟨gq, 4, none⟩ (.int .i64 (max n (-1)))) := (Keeps.refl _ w).setCell gq 4 _ (.inl rfl)
  have hg := h2' gq (.inl rfl)
  refine ⟨⟨S1, S2, h1.keep hk fun k h e => h3 k h (e ▸ hg), ⟨nv, sv, av, ov, ?_, h2'⟩, h3, h4, h5, h6.keeps hk fun e => h8 (e ▸ hg), h7, h8⟩, hk.below (fun k e => e ▸ h5 gq hg) hb⟩
  rw [← fcell_fuse y n]
  exact h2.put (nv' := nv) (sv' := sv) (av' := av) (ov' := ov) (A' := y.P.map Prod.fst) (O' := y.P.map Prod.snd) (F' := (y.fuse n).F) 4 _ rfl h2.now h2.sure h2.at_ h2.op h2.ns h2.no h2.so
theorem Tb.f4 (h : Tb b w gd gq x y kb cs) : (∃ v, w.cell? ⟨gq, 4, none⟩ = some v) ∧ w.frozen? ⟨gq, 4, none⟩ = false := by
  obtain ⟨S1, S2, h1, ⟨nv, sv, av, ov, h2, h2'⟩, _⟩ := h
  exact ⟨⟨_, h2.blk.cell 4⟩, h2.blk.frozen 4⟩
theorem Two.c0 (h : Two b w gd gq x y) (m : Nat) (hm : y.D.length = m) : ∃ a c, w.cell? ⟨gq, 0, none⟩ = some (.slice a m c) := by
  obtain ⟨S1, S2, h1, ⟨nv, sv, av, ov, h2, h2'⟩, _⟩ := h
  obtain ⟨a, c, rfl⟩ := own_sliceN h2.now (show y.V.length = m by rw [Dr.vlen]; exact hm)
  exact ⟨a, c, h2.blk.cell 0⟩
end
end Go.Proofs.Ythoafaaemikiaaa.Dv
