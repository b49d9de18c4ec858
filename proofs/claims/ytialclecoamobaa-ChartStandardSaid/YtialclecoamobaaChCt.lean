/- Package chart: a chart, by what it has; what a call of it leaves. -/
import Derived.Test.YtialclecoamobaaChRShut
namespace Go.Proofs.Ytialclecoamobaa.Ch
open Go Go.RowKit Ck Go.Maps
/-- Blocks of accounts stay. -/
def Stay (w w' : World) : Prop := ∀ (g : Nat) (cs : Array Value), w.heap[g]? = some (Obj.cells cs TAc (0, 0)) → w'.heap[g]? = some (Obj.cells cs TAc (0, 0))
theorem Stay.of {w w' : World} (h : Below w.heap.size w w') : Stay w w' := fun g _ hg => (h.block g (Array.getElem?_eq_some_iff.1 hg).1).trans hg
theorem Stay.refl (w : World) : Stay w w := fun _ _ h => h
theorem Stay.trans {w w' w'' : World} (h : Stay w w') (k : Stay w' w'') : Stay w w'' := fun g cs hg => k g cs (h g cs hg)
theorem Stay.rw {w w' : World} (h : Stay w w') {b : Nat} {L : List Value} (r : Rw w b TAc L) : Rw w' b TAc L := h b _ r
theorem Stay.own {w w' : World} (h : Stay w w') {base n : Nat} {v : Value} {xs : List Value} (r : w.ownsRow base TAc 5 v n xs) : w'.ownsRow base TAc 5 v n xs := by
  rcases r.2 with ⟨rfl, h0⟩ | ⟨g, cap, cur, rfl, hb, hg, k⟩
  · exact ⟨r.1, .inl ⟨rfl, h0⟩⟩
  · exact ⟨r.1, .inr ⟨g, cap, cur, rfl, hb, h g _ hg, k⟩⟩
/-- A chart that is right, in memory from base on. -/
def Ct (base : Nat) (w : World) (c : Nat) (M : Int → Option Acc) (K : List Int) (N : Nat) : Prop := ∃ bm tv n, At w c bm tv n M K ∧ Gm M K ∧ Kd N M ∧ n ≤ 2 * N ∧ ∀ j, Bs c bm tv j → base ≤ j
section
variable {base c N : Nat} {w w' : World} {M : Int → Option Acc} {K : List Int}
theorem Ct.gm (h : Ct base w c M K N) : Gm M K := by
  obtain ⟨bm, tv, n, h1, h2, _⟩ := h
  exact h2
theorem Ct.later (h : Ct base w c M K N) (k : Below w.heap.size w w') : Ct base w' c M K N := by
  obtain ⟨bm, tv, n, h1, h2⟩ := h
  exact ⟨bm, tv, n, h1.later k, h2⟩
theorem Ct.lower (h : Ct base w c M K N) {b : Nat} (hb : b ≤ base) : Ct b w c M K N := by
  obtain ⟨bm, tv, n, h1, h2, h3, h4, h5⟩ := h
  exact ⟨bm, tv, n, h1, h2, h3, h4, fun j hj => Nat.le_trans hb (h5 j hj)⟩
/-- What an operation leaves. -/
structure Left (base : Nat) (w w' : World) : Prop where
  b : Below base w w'
  s : Stay w w'
theorem Left.of {base : Nat} {w w' : World} (h : Below w.heap.size w w') (hb : base ≤ w.heap.size) : Left base w w' := ⟨h.mono hb, Stay.of h⟩
theorem Left.trans {base : Nat} {w w' w'' : World} (h : Left base w w') (k : Left base w' w'') : Left base w w'' := ⟨h.b.trans k.b, h.s.trans k.s⟩
theorem At.left {bm n : Nat} {tv : Value} (h : At w c bm tv n M K) (k : Keeps (Bs c bm tv) w w') (hb : ∀ j, Bs c bm tv j → base ≤ j) (hw : base ≤ w.heap.size) : Left base w w' := by
  refine ⟨k.below hb hw, fun g cs hg => (k.block g (Array.getElem?_eq_some_iff.1 hg).1 fun hB => ?_).trans hg⟩
  rcases hB with rfl | rfl | hB
  · have := h.blk.symm.trans hg
    injection this with this
    injection this with _ h2
    exact absurd h2 (by decide)
  · obtain ⟨D, ⟨es, clock, hb, _⟩, _⟩ := h.mp
    have := hb.symm.trans hg
    injection this with this
    cases this
  · rcases h.own.2 with ⟨rfl, _⟩ | ⟨g', cap, cur, rfl, _, hg', _⟩
    · cases hB
    · injection hB with e
      subst e
      have := hg'.symm.trans hg
      injection this with this
      injection this with _ h2
      exact absurd h2 (by decide)
theorem Ct.few (h : Ct base w c M K N) : K.length ≤ 9999 := h.gm.wd.few h.gm.ks
theorem ct_new (w : World) : Calls Try.prog 6 #[] w fun e w' => ∃ c, e = .returned (.pointer (some ⟨c, 0, none⟩)) ∧ Ct w.heap.size w' c (fun _ => none) [] 0 ∧ Left w.heap.size w w' :=
  (new_c w).mono fun e w' ⟨c, bm, h1, h2, h3, h4⟩ => ⟨c, h1, ⟨bm, _, 0, h2, Gm.empty, Kd.empty, by omega, h4⟩, Left.of h3 (Nat.le_refl _)⟩
theorem Gm.addEx (g : Gm M K) (a : A5) {bm tv n} (h : At w c bm tv n (Ch.addM M a).1 K) : Gm (Ch.addM M a).1 K := g.addM a h.ks
def ARes (base c : Nat) (M' : Int → Option Acc) (N' : Nat) (z : Int) (w : World) (e : Ending) (w' : World) : Prop := e = .returned (.int .i64 z) ∧ (∃ K', Ct base w' c M' K' N') ∧ Left base w w'
theorem ct_add (h : Ct base w c M K N) (hb : base ≤ w.heap.size) (a : A5) (hf : a.Fits) (hN : N ≤ 400000) : Calls Try.prog 11 #[.pointer (some ⟨c, 0, none⟩), a.val] w (ARes base c (addM M a).1 (N + 1) (addM M a).2 w) := by
  have hk := h.few
  obtain ⟨bm, tv, n, h1, h2, h3, h4, h5⟩ := h
  refine (add_c h1 a hf (by omega) (by omega) (h2.wd.bd h3 (by omega))).mono ?_
  rintro e w' ⟨rfl, tv', K', n', k1, k1', k2, k3, k4⟩
  exact ⟨rfl, ⟨K', bm, tv', n', k2, h2.addM a k2.ks, h3.add a, by omega, fun j hj => (k4 j hj).elim (h5 j) (Nat.le_trans hb)⟩, h1.left k3 h5 hb⟩
/-- What is there stays as it is. -/
theorem ct_there (h : Ct base w c M K N) (hb : base ≤ w.heap.size) (a : A5) (hf : a.Fits) (hN : N ≤ 400000) (ha : addM M a = (M, 8)) : Calls Try.prog 11 #[.pointer (some ⟨c, 0, none⟩), a.val] w (ARes base c M N 8 w) := by
  have hk := h.few
  obtain ⟨bm, tv, n, h1, h2, h3, h4, h5⟩ := h
  refine (add_c h1 a hf (by omega) (by omega) (h2.wd.bd h3 (by omega))).mono ?_
  rw [ha]
  rintro e w' ⟨rfl, tv', K', n', k1, k1', k2, k3, k4⟩
  refine ⟨rfl, ⟨K', bm, tv', n', k2, ?_, h3, ?_, fun j hj => (k4 j hj).elim (h5 j) (Nat.le_trans hb)⟩, h1.left k3 h5 hb⟩
  · have : K' = K := k2.ks.unique h1.ks
    rw [this]; exact h2
  · rcases k1' with e | e
    · exact absurd (show (8 : Int) = 0 from e) (by decide)
    · omega
theorem Kd.shutM (h : Kd N M) (code : Int) : Kd (N + 1) (shutM M K code).1 := by
  have h1 : Kd (N + 1) M := h.more (by omega)
  unfold Ch.shutM
  split
  · exact h1
  split
  · exact h1
  · rename_i h2 _
    cases hm : M code with
    | none => rw [hm] at h2; exact absurd rfl h2
    | some p => exact h1.upd (h1 code p hm)
theorem ct_shut (h : Ct base w c M K N) (hb : base ≤ w.heap.size) (code : Int) (hc : I64 code) (hN : N ≤ 400000) : Calls Try.prog 9 #[.pointer (some ⟨c, 0, none⟩), .int .i64 code] w (ARes base c (shutM M K code).1 (N + 1) (shutM M K code).2 w) := by
  have hk := h.few
  obtain ⟨bm, tv, n, h1, h2, h3, h4, h5⟩ := h
  refine (shut_c h1 h2.wd code hc (by omega) (by omega)).mono ?_
  rintro e w' ⟨rfl, tv', K', n', k1, k1', k2, k3, k4⟩
  exact ⟨rfl, ⟨K', bm, tv', n', k2, h2.shutM code k2.ks, h3.shutM code, by omega, fun j hj => (k4 j hj).elim (h5 j) (Nat.le_trans hb)⟩, h1.left k3 h5 hb⟩
theorem ct_under (h : Ct base w c M K N) (code : Int) (hc : I64 code) : Calls Try.prog 16 #[.pointer (some ⟨c, 0, none⟩), .int .i64 code] w (IntsRes (undL M K code) w) := by
  have hk := h.few
  obtain ⟨bm, tv, n, h1, h2, _⟩ := h
  exact under_c h1 h2.wd code hc (by omega)
theorem ct_leaf (h : Ct base w c M K N) (code : Int) (hc : I64 code) : Calls Try.prog 19 #[.pointer (some ⟨c, 0, none⟩), .int .i64 code] w fun e w' => e = .returned (.bool (leafM M code)) ∧ Below w.heap.size w w' := by
  obtain ⟨bm, tv, n, h1, _⟩ := h
  exact leaf_c h1 code hc
theorem ct_get (h : Ct base w c M K N) (code : Int) (hc : I64 code) : Calls Try.prog 17 #[.pointer (some ⟨c, 0, none⟩), .int .i64 code] w fun e w' => e = .returned (.tuple #[(getM M code).1.val, .int .i64 (getM M code).2]) ∧ Below w.heap.size w w' := by
  obtain ⟨bm, tv, n, h1, _⟩ := h
  exact gets_c h1 code hc
theorem ct_all (h : Ct base w c M K N) : Calls Try.prog 15 #[.pointer (some ⟨c, 0, none⟩)] w (AccsRes (lst M K) w) := by
  have hk := h.few
  obtain ⟨bm, tv, n, h1, h2, _⟩ := h
  exact all_c h1 h2.wd (by omega)
end
/-- A chart beside a list of numbers. -/
def Cf (base : Nat) (v : Value) (w : World) (c : Nat) (M : Int → Option Acc) (K : List Int) (N : Nat) : Prop := ∃ bm tv n, At w c bm tv n M K ∧ Gm M K ∧ Kd N M ∧ n ≤ 2 * N ∧ (∀ j, Bs c bm tv j → base ≤ j) ∧ ∀ j, v.ownBlock = some j → ¬ Bs c bm tv j
section
variable {base c N b0 n0 : Nat} {w w' : World} {M : Int → Option Acc} {K : List Int} {v : Value} {xs : List Value}
theorem Cf.ct (h : Cf base v w c M K N) : Ct base w c M K N := by
  obtain ⟨bm, tv, n, h1, h2, h3, h4, h5, _⟩ := h
  exact ⟨bm, tv, n, h1, h2, h3, h4, h5⟩
theorem Cf.later (h : Cf base v w c M K N) (k : Below w.heap.size w w') : Cf base v w' c M K N := by
  obtain ⟨bm, tv, n, h1, h2⟩ := h
  exact ⟨bm, tv, n, h1.later k, h2⟩
theorem Ct.cf (h : Ct base w c M K N) (k : Below w.heap.size w w') (hv : ∀ j, v.ownBlock = some j → w.heap.size ≤ j) : Cf base v w' c M K N := by
  obtain ⟨bm, tv, n, h1, h2, h3, h4, h5⟩ := h
  exact ⟨bm, tv, n, h1.later k, h2, h3, h4, h5, fun j hj hB => absurd (h1.lt j hB) (Nat.not_lt.2 (hv j hj))⟩
def FRes (base c : Nat) (v : Value) (b0 n0 : Nat) (xs : List Value) (M' : Int → Option Acc) (N' : Nat) (z : Int) (w : World) (e : Ending) (w' : World) : Prop := e = .returned (.int .i64 z) ∧ (∃ K', Cf base v w' c M' K' N') ∧ Left base w w' ∧ w'.ownsRow b0 TInt 1 v n0 xs
theorem cf_add (h : Cf base v w c M K N) (hb : base ≤ w.heap.size) (ho : w.ownsRow b0 TInt 1 v n0 xs) (a : A5) (hf : a.Fits) (hN : N ≤ 400000) : Calls Try.prog 11 #[.pointer (some ⟨c, 0, none⟩), a.val] w (FRes base c v b0 n0 xs (addM M a).1 (N + 1) (addM M a).2 w) := by
  have hk := h.ct.few
  obtain ⟨bm, tv, n, h1, h2, h3, h4, h5, h6⟩ := h
  refine (add_c h1 a hf (by omega) (by omega) (h2.wd.bd h3 (by omega))).mono ?_
  rintro e w' ⟨rfl, tv', K', n', k1, k1', k2, k3, k4⟩
  exact ⟨rfl, ⟨K', bm, tv', n', k2, h2.addM a k2.ks, h3.add a, by omega, fun j hj => (k4 j hj).elim (h5 j) (Nat.le_trans hb), fun j hj hB => (k4 j hB).elim (h6 j hj) fun h => Nat.not_lt.2 h (ho.lt j hj).2⟩, h1.left k3 h5 hb, own_keeps ho k3 h6⟩
theorem cf_shut (h : Cf base v w c M K N) (hb : base ≤ w.heap.size) (ho : w.ownsRow b0 TInt 1 v n0 xs) (code : Int) (hc : I64 code) (hN : N ≤ 400000) : Calls Try.prog 9 #[.pointer (some ⟨c, 0, none⟩), .int .i64 code] w (FRes base c v b0 n0 xs (shutM M K code).1 (N + 1) (shutM M K code).2 w) := by
  have hk := h.ct.few
  obtain ⟨bm, tv, n, h1, h2, h3, h4, h5, h6⟩ := h
  refine (shut_c h1 h2.wd code hc (by omega) (by omega)).mono ?_
  rintro e w' ⟨rfl, tv', K', n', k1, k1', k2, k3, k4⟩
  exact ⟨rfl, ⟨K', bm, tv', n', k2, h2.shutM code k2.ks, h3.shutM code, by omega, fun j hj => (k4 j hj).elim (h5 j) (Nat.le_trans hb), fun j hj hB => (k4 j hB).elim (h6 j hj) fun h => Nat.not_lt.2 h (ho.lt j hj).2⟩, h1.left k3 h5 hb, own_keeps ho k3 h6⟩
end
def lit (L : List UInt8) : ByteArray := ⟨L.toArray⟩
def stdL : List A5 := [⟨1100, 0, 1, ⟨#[67, 97, 115, 104]⟩, false⟩, ⟨1200, 0, 1, ⟨#[82, 101, 99, 101, 105, 118, 97, 98, 108, 101]⟩, false⟩, ⟨2100, 0, 2, ⟨#[68, 101, 102, 101, 114, 114, 101, 100]⟩, false⟩, ⟨2200, 0, 2, ⟨#[85, 110, 97, 112, 112, 108, 105, 101, 100]⟩, false⟩, ⟨3100, 0, 3, ⟨#[82, 101, 118, 101, 110, 117, 101]⟩, false⟩, ⟨4100, 0, 4, ⟨#[76, 111, 115, 116]⟩, false⟩]
theorem acs_rw {w : World} {b : Nat} {A : List A5} (h : Rw w b TAc (flatA A)) : Acs w (some ⟨b, 0, none⟩) A := fun j hj => ⟨b, 0, rfl, h.lt, fun i v hv => by
  rw [Nat.zero_add, h.cell]
  exact flatA_at A j hj i v hv⟩
def StdRes (w : World) (e : Ending) (w' : World) : Prop := ∃ b, e = .returned (.slice (some ⟨b, 0, none⟩) 6 6) ∧ w.heap.size ≤ b ∧ Rw w' b TAc (flatA stdL) ∧ Below w.heap.size w w'
set_option maxRecDepth 100000 in
theorem std_c (w : World) : Calls Try.prog 20 #[] w (StdRes w) := by
  go_enter Try.func20, Try.ntmps20
  go_wp2_with fail
  go_ret
  exact ⟨_, rfl, Nat.le_refl _, Rw.new w _ _, (Below.refl _ w).alloc (Nat.le_refl _) _⟩
set_option maxRecDepth 100000 in
theorem rstd_c (w : World) : Calls Try.prog 23 #[] w (StdRes w) := by
  go_enter Try.func23, Try.ntmps23
  go_wp2_with fail
  go_ret
  exact ⟨_, rfl, Nat.le_refl _, Rw.new w _ _, (Below.refl _ w).alloc (Nat.le_refl _) _⟩
end Go.Proofs.Ytialclecoamobaa.Ch
