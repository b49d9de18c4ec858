/- Package drive: what is sure, what is open: the mathematics, and drives beside a list of one's own. -/
import Derived.Test.YthoafaaemikiaaaDvActs
import Derived.Test.YthoafaaemikiaaaDvOwn
namespace Go.Proofs.Ythoafaaemikiaaa.Dv
open Go Go.RowKit Rf
/-- A drive behind j writes that nothing stopped. -/
structure Lw (x : Dr) (j : Nat) : Prop where
  ok : x.Ok
  n : x.D.length = 8
  p : x.P.length ≤ j
  f : x.F = none
theorem lw_write {x : Dr} {j : Nat} (h : Lw x j) (n : Int) (s : Sec) : ∃ y z, x.write n s = (y, z) ∧ Lw y (j + 1) := by
  have ho := h.ok.write n s
  have e : x.write n s = (x, 2) ∨ x.write n s = (x, 3) ∨ x.write n s = (⟨x.D, x.P ++ [(n.toNat, pad s)], none⟩, 0) := by
    unfold Dr.write
    rw [h.f]
    split
    · exact .inl rfl
    · split
      · exact .inr (.inl rfl)
      · exact .inr (.inr rfl)
  rcases e with e | e | e
  · exact ⟨x, 2, e, h.ok, h.n, Nat.le_succ_of_le h.p, h.f⟩
  · exact ⟨x, 3, e, h.ok, h.n, Nat.le_succ_of_le h.p, h.f⟩
  · rw [e] at ho
    exact ⟨_, 0, e, ho, h.n, by have := h.p; simp; omega, rfl⟩
theorem lw_sync {x : Dr} {j : Nat} (h : Lw x j) : x.sync = (⟨x.V, [], none⟩, 0) ∧ Dr.Ok ⟨x.V, [], none⟩ ∧ x.V.length = 8 := by
  have e : x.sync = (⟨x.V, [], none⟩, 0) := by unfold Dr.sync; rw [h.f]; rfl
  have := h.ok.sync
  rw [e] at this
  exact ⟨e, this, by rw [Dr.vlen]; exact h.n⟩
/-- A drive with open writes: these acts'. -/
structure Op2 (D : List Sec) (y : Dr) (A : List Ac) : Prop where
  ok : y.Ok
  n : D.length = 8
  d : y.D = D
  f : y.F = none
  p : y.P = A.map fun a => (a.n.toNat, pad a.s.data.toList)
  a : ∀ a ∈ A, (0 ≤ a.n ∧ a.s.data.toList.length ≤ 64) ∧ a.Fits
theorem op2_len {D : List Sec} {y : Dr} {A : List Ac} (h : Op2 D y A) : y.P.length = A.length := by rw [h.p]; simp
theorem op2_start {D : List Sec} (h : Dr.Ok ⟨D, [], none⟩) (h8 : D.length = 8) : Op2 D ⟨D, [], none⟩ [] := ⟨h, h8, rfl, rfl, rfl, fun _ h => by simp at h⟩
theorem op2_write {D : List Sec} {y : Dr} {A : List Ac} (h : Op2 D y A) (a : Ac) (ha : a.Fits) :
    (∃ z : Int, y.write a.n a.s.data.toList = (y, z) ∧ (z == 0) = false) ∨ ∃ y', y.write a.n a.s.data.toList = (y', 0) ∧ Op2 D y' (A ++ [a]) := by
  have ho := h.ok.write a.n a.s.data.toList
  have h8 : y.D.length = 8 := by rw [h.d]; exact h.n
  by_cases h1 : a.n < 0 ∨ (y.D.length : Int) ≤ a.n
  · exact .inl ⟨2, by unfold Dr.write; rw [if_pos h1], rfl⟩
  · by_cases h2 : 64 < a.s.data.toList.length
    · exact .inl ⟨3, by unfold Dr.write; rw [if_neg h1, if_pos h2], rfl⟩
    · have e : y.write a.n a.s.data.toList = (⟨y.D, y.P ++ [(a.n.toNat, pad a.s.data.toList)], none⟩, 0) := by
        unfold Dr.write
        rw [if_neg h1, if_neg h2, h.f]
        rfl
      rw [e] at ho
      refine .inr ⟨_, e, ho, h.n, h.d, rfl, by rw [h.p]; simp, fun b hb => ?_⟩
      rcases List.mem_append.1 hb with hb | hb
      · exact h.a b hb
      · simp only [List.mem_cons, List.not_mem_nil, or_false] at hb
        subst hb
        exact ⟨⟨by omega, by omega⟩, ha⟩
theorem sure_byte {D : List Sec} {y : Dr} {A : List Ac} (h : Op2 D y A) (c : Cr) (n k : Nat) (hk : k < 64) (b : UInt8) (hb : ((y.crash c).V.getD n [])[k]? = some b) :
    (D.getD n [])[k]? = some b ∨ ∃ (i0 : Nat) (hi : i0 < A.length), A[i0].n = (n : Int) ∧ A[i0].s.data.toList.getD k 0 = b := by
  rcases crash_byte c n k b y.P 0 y.D h.ok.d h.ok.p hb with h1 | ⟨q, hq, rfl, h3⟩
  · rw [h.d] at h1; exact .inl h1
  · rw [h.p] at hq
    obtain ⟨a, ha, rfl⟩ := List.mem_map.1 hq
    obtain ⟨i0, hi, rfl⟩ := List.getElem_of_mem ha
    have hf := (h.a _ ha).1
    refine .inr ⟨i0, hi, by simp only; omega, ?_⟩
    have := pad_get hf.2 k hk
    simp only at h3
    rw [this] at h3
    exact Option.some.inj h3
theorem sure_all {D : List Sec} {y : Dr} {A : List Ac} (h : Op2 D y A) (c : Cr) (hk : c.keep = 18446744073709551615) (ht : c.torn < 0) : (y.crash c).V = y.V := by
  refine crash_all c (fun i => ?_) y.P 0 y.D h.ok.d h.ok.p
  unfold Cr.cut
  rw [if_neg (by omega), if_pos]
  rw [hk]
  have hi : i % 64 < 64 := Nat.mod_lt _ (by decide)
  generalize i % 64 = m at hi
  have : ∀ m : Fin 64, 18446744073709551615 / 2 ^ m.val % 2 = 1 := by decide
  exact this ⟨m, hi⟩
/-- Two rows of one's own, of types of their own. -/
theorem own_own {w : World} {b1 b2 e1 e2 s1 s2 n1 n2 : Nat} {v1 v2 : Value} {x1 x2 : List Value} (h1 : w.ownsRow b1 e1 s1 v1 n1 x1) (h2 : w.ownsRow b2 e2 s2 v2 n2 x2) (hne : e1 ≠ e2) (j : Nat) (h : v1.ownBlock = some j) : v2.ownBlock ≠ some j := by
  rcases h1.2 with ⟨rfl, _⟩ | ⟨g, cap, cur, rfl, _, hg, _⟩
  · cases h
  · injection h with h
    subst h
    exact own_type (L := cur.toList) h2 (by unfold Rw; rw [hg]) hne
theorem Os.own {S : Nat → Prop} {w : World} {g n : Nat} {x : Dr} {v : Value} {xs : List Value} (h : Os S w g x) (k : w.ownsRow 0 TA 6 v n xs) : Os (fun j => S j ∧ v.ownBlock ≠ some j) w g x := by
  obtain ⟨bv, bd, pv, fv, h1, h2⟩ := h
  refine ⟨bv, bd, pv, fv, h1, fun j hj => ⟨h2 j hj, ?_⟩⟩
  rcases hj with rfl | rfl | rfl | hj | hj
  · exact own_type k h1.blk (by decide)
  · exact own_type k h1.v (by decide)
  · exact own_type k h1.d (by decide)
  · exact own_own h1.p k (by decide) j hj
  · rcases h1.f with ⟨_, rfl⟩ | ⟨b, m, _, rfl, h3⟩
    · cases hj
    · cases hj
      exact own_type k h3 (by decide)
theorem Os.grown {S : Nat → Prop} {w w' : World} {g n : Nat} {x : Dr} {v : Value} {xs : List Value} (h : Os S w g x) (k : w.ownsRow 0 TA 6 v n xs) (hg : w.grownBy w' v.ownBlock) : Os S w' g x := by
  have h' := h.own k
  exact (h'.keep (T := fun j => v.ownBlock = some j) ⟨hg.os, hg.tape, hg.output, hg.size, fun j hj hn => hg.block j hj fun e => hn e.symm⟩ fun j hj => hj.2).mono fun j hj => hj.1
theorem os_pending {S : Nat → Prop} {w : World} {g : Nat} {x : Dr} (h : Os S w g x) (hx : x.Ok) : Calls Try.prog 19 #[.pointer (some ⟨g, 0, none⟩)] w fun e w' => e = .returned (.int .i64 (x.P.length : Int)) ∧ w = w' := by
  obtain ⟨bv, bd, pv, fv, h1, _⟩ := h
  exact pending_c g bv bd pv fv x w h1 hx
theorem os_read {S : Nat → Prop} {w : World} {g : Nat} {x : Dr} (h : Os S w g x) (hx : x.Ok) (n : Nat) (hn : n < x.D.length) (B : ByteArray) (hB : B.data.toList = x.V.getD n []) :
    Calls Try.prog 18 #[.pointer (some ⟨g, 0, Option.none⟩), .int .i64 (n : Int)] w fun e w' => e = .returned (.tuple #[.string B, .int .i64 0]) ∧ Below w.heap.size w w' := by
  obtain ⟨bv, bd, pv, fv, h1, _⟩ := h
  refine (read_c g bv bd pv fv x (n : Int) w h1 hx).mono fun e w' hr => ?_
  unfold RdRes at hr
  have e1 : x.read (n : Int) = (x.V.getD n [], 0) := by unfold Dr.read; rw [if_neg (by omega)]; rfl
  rw [e1, ← hB] at hr
  exact hr
theorem infoA : (Try.prog.info? TA).map (fun i => (i.zero, i.size, i.bytes)) = some (some (.agg #[.int .u8 0, .int .i64 0, .string ⟨#[]⟩, .int .u64 0, .int .i64 0, .int .i64 0]), 6, 56) := by kernel_rfl
theorem cs_one (x : Ac) : ∀ v ∈ x.cs, v.oneCell' = true := by
  intro v hv
  simp only [Ac.cs, List.mem_cons, List.not_mem_nil, or_false] at hv
  rcases hv with rfl | rfl | rfl | rfl | rfl | rfl <;> rfl
theorem app_act {ops : Array Oper} {rest : List Oper} {o : Oper} {a : Act} {Q : Exit → Act → World → Prop} {w : World} (hgd : o.guard = none) (s x : Operand)
    (ho : o.op = .call { callee := .builtin .append, args := #[s, x], argTypes := #[22, 22] })
    (lo : Nat) (v : Value) (A : List Ac) (f : Ac) (hs : a.eval s = v) (g c : Nat) (hx : a.eval x = .slice (some ⟨g, 0, none⟩) 1 c) (hown : w.ownsRow lo TA 6 v A.length (flatA A))
    (hf : Rw w g TA f.cs) (hlen : A.length ≤ 1000000) (hlo : lo ≤ w.heap.size)
    (h : ∀ v' w', w'.ownsRow lo TA 6 v' (A.length + 1) (flatA (A ++ [f])) → w.grownBy w' v.ownBlock → wpList Try.prog ops Q rest (a.put o.dst v') w') : wpList Try.prog ops Q (o :: rest) a w := by
  obtain ⟨i0, hi, hz0, hz1, hz2⟩ := info_parts infoA
  refine wpList_append_own w hgd s x 22 ho lo TA i0 (.agg #[.int .u8 0, .int .i64 0, .string ⟨#[]⟩, .int .u64 0, .int .i64 0, .int .i64 0]) 6 56 Try.underlying22 hi hz0 hz1 hz2 rfl (by decide) v A.length (flatA A) hs hown ⟨g, 0, none⟩ 1 c f.cs hx rfl ?_ ?_ (by unfold maxLen; omega) (by omega) hlo ?_
  · intro j u hj
    rw [Go.WideShapes.add_plain, Nat.zero_add]
    exact (hf.cell j).trans hj
  · exact cs_one f
  · intro v' w' k1 k2 _
    exact h v' w' (by rw [flatA_snoc]; exact k1) k2
end Go.Proofs.Ythoafaaemikiaaa.Dv
