/- Package plans: a catalog by what it has; what a call of it leaves. -/
import Derived.Test.YtakpoabpgdmneaaPlAlls
import Derived.Test.YtakpoabpgdmneaaPlSame
namespace Go.Proofs.Ytakpoabpgdmneaa.Pl
open Go Go.RowKit Ck Go.Maps
theorem up_unique : ∀ {K K' : List Int}, Up K → Up K' → (∀ c, c ∈ K ↔ c ∈ K') → K = K'
  | [], [], _, _, _ => rfl
  | [], c :: K', _, _, h => by have := (h c).2 (by simp); cases this
  | c :: K, [], _, _, h => by have := (h c).1 (by simp); cases this
  | c :: K, d :: K', h1, h2, h => by
    have p1 := List.pairwise_cons.1 h1
    have p2 := List.pairwise_cons.1 h2
    have e : c = d := by
      have a1 := (h c).1 (by simp)
      have a2 := (h d).2 (by simp)
      rcases List.mem_cons.1 a1 with e | a1
      · exact e
      · rcases List.mem_cons.1 a2 with e | a2
        · exact e.symm
        · have := p1.1 _ a2
          have := p2.1 _ a1
          omega
    subst e
    rw [up_unique p1.2 p2.2 fun x => ?_]
    constructor
    · intro hx
      have hlt := p1.1 _ hx
      rcases List.mem_cons.1 ((h x).1 (List.mem_cons_of_mem _ hx)) with e | h3
      · omega
      · exact h3
    · intro hx
      have hlt := p2.1 _ hx
      rcases List.mem_cons.1 ((h x).2 (List.mem_cons_of_mem _ hx)) with e | h3
      · omega
      · exact h3
theorem Ks.unique {T T' : Type} {M : Int → Option T} {M' : Int → Option T'} {K K' : List Int} (h : Ks M K) (h' : Ks M' K') (e : ∀ c, (M c).isSome = (M' c).isSome) : K = K' :=
  up_unique h.up h'.up fun c => by rw [h.mem, h'.mem, e]
/-- A catalog in the blocks F. -/
def Ct (F : Nat → Prop) (w : World) (c : Nat) (M : Int → Option Pn) (K : List Int) (N : Nat) : Prop := ∃ bm tv n V, At w c bm tv n V K ∧ mdl V = M ∧ n ≤ N ∧ F = Bs c bm tv V
theorem mdl_some (V : Int → Option Pv) (k : Int) : (mdl V k).isSome = (V k).isSome := by unfold mdl; rw [Option.isSome_map]
section
variable {F : Nat → Prop} {w w' : World} {c : Nat} {M : Int → Option Pn} {K : List Int} {N : Nat}
theorem Ct.later (h : Ct F w c M K N) (k : Below w.heap.size w w') : Ct F w' c M K N := by
  obtain ⟨bm, tv, n, V, h1, h2⟩ := h
  exact ⟨bm, tv, n, V, h1.later k, h2⟩
theorem Ct.keeps {T : Nat → Prop} (h : Ct F w c M K N) (k : Keeps T w w') (hT : ∀ j, F j → ¬ T j) : Ct F w' c M K N := by
  obtain ⟨bm, tv, n, V, h1, h2, h3, rfl⟩ := h
  exact ⟨bm, tv, n, V, h1.keeps k hT, h2, h3, rfl⟩
theorem Ct.more (h : Ct F w c M K N) {N' : Nat} (hN : N ≤ N') : Ct F w c M K N' := by
  obtain ⟨bm, tv, n, V, h1, h2, h3, h4⟩ := h
  exact ⟨bm, tv, n, V, h1, h2, by omega, h4⟩
theorem Ct.lt (h : Ct F w c M K N) : ∀ j, F j → j < w.heap.size := by
  obtain ⟨bm, tv, n, V, h1, h2, h3, rfl⟩ := h
  exact h1.lt
theorem Ct.ks (h : Ct F w c M K N) : Ks M K := by
  obtain ⟨bm, tv, n, V, h1, h2, h3, rfl⟩ := h
  refine ⟨h1.ks.up, fun q => ?_⟩
  rw [h1.ks.mem, ← h2, mdl_some]
theorem Ct.ok (h : Ct F w c M K N) : ∀ k x, M k = some x → x.id = k ∧ x.okB = true ∧ U64 k := fun k x hx => by
  obtain ⟨bm, tv, n, V, h1, h2, h3, rfl⟩ := h
  rw [← h2] at hx
  unfold mdl at hx
  cases hv : V k with
  | none => rw [hv] at hx; cases hx
  | some p =>
    rw [hv] at hx
    cases hx
    have := h1.ok k p hv
    exact ⟨this.2.1, this.1, this.2.2⟩
/-- What a call leaves of the world and of the catalog. -/
def Goes (F : Nat → Prop) (w w' : World) (c : Nat) (M' : Int → Option Pn) (n N' : Nat) : Prop := ∃ F' K', Ct F' w' c M' K' N' ∧ K'.length ≤ n ∧ Keeps F w w' ∧ ∀ j, F' j → F j ∨ w.heap.size ≤ j
theorem after_goes {bm n : Nat} {tv : Value} {V : Int → Option Pv} {M' : Int → Option Pn} {K' : List Int} {m : Nat} (h : After c bm tv n V w w' M' K') (hn : n ≤ N) (hm : K'.length ≤ m) : Goes (Bs c bm tv V) w w' c M' m (N + 1) := by
  obtain ⟨tv', n', V', h1, h2, h3, h4, h5⟩ := h
  exact ⟨_, K', ⟨bm, tv', n', V', h1, h3, by omega, rfl⟩, hm, h4, h5⟩
theorem ct_new (w : World) : Calls Try.prog 8 #[] w fun e w' => ∃ c F, e = .returned (.pointer (some ⟨c, 0, none⟩)) ∧ Ct F w' c (fun _ => none) [] 0 ∧ Below w.heap.size w w' ∧ ∀ j, F j → w.heap.size ≤ j :=
  (new_c w).mono fun _ _ ⟨c, bm, h1, h2, h3, h4⟩ => ⟨c, _, h1, ⟨bm, _, 0, _, h2, rfl, Nat.le_refl _, rfl⟩, h3, h4⟩
theorem ct_add (h : Ct F w c M K N) (x : Pn) (a : Option Addr) (cap : Nat) (hp : Prs w a x.ps) (hk : U64 x.id) (hN : N < 1000000) (hK : K.length ≤ 1000000) : Calls Try.prog 10 #[.pointer (some ⟨c, 0, none⟩), x.val a cap] w fun e w' => e = .returned (.int .i64 (addM M x).2) ∧ Goes F w w' c (addM M x).1 (K.length + 1) (N + 1) := by
  obtain ⟨bm, tv, n, V, h1, rfl, h3, rfl⟩ := h
  refine (add_c h1 x a cap hp hk (by omega) hK).mono ?_
  rintro e w' ⟨rfl, K', h5, h6⟩
  exact ⟨rfl, after_goes h5 h3 h6⟩
theorem ct_reprice (h : Ct F w c M K N) (k : Int) (hk : U64 k) (y : Pr) (hN : N < 1000000) : Calls Try.prog 12 #[.pointer (some ⟨c, 0, none⟩), .int .u64 k, y.val] w fun e w' => e = .returned (.int .i64 (repriceM M k y).2) ∧ Goes F w w' c (repriceM M k y).1 (K.length + 1) (N + 1) := by
  obtain ⟨bm, tv, n, V, h1, rfl, h3, rfl⟩ := h
  refine (reprice_c h1 k hk y (by omega)).mono ?_
  rintro e w' ⟨rfl, h5⟩
  exact ⟨rfl, after_goes h5 h3 (Nat.le_succ _)⟩
theorem ct_retire (h : Ct F w c M K N) (k : Int) (hk : U64 k) (day : Int) (hN : N < 1000000) : Calls Try.prog 14 #[.pointer (some ⟨c, 0, none⟩), .int .u64 k, .int .i64 day] w fun e w' => e = .returned (.int .i64 (retireM M k day).2) ∧ Goes F w w' c (retireM M k day).1 (K.length + 1) (N + 1) := by
  obtain ⟨bm, tv, n, V, h1, rfl, h3, rfl⟩ := h
  refine (retire_c h1 k hk day (by omega)).mono ?_
  rintro e w' ⟨rfl, h5⟩
  exact ⟨rfl, after_goes h5 h3 (Nat.le_succ _)⟩
theorem ct_price (h : Ct F w c M K N) (k : Int) (hk : U64 k) (day : Int) : Calls Try.prog 15 #[.pointer (some ⟨c, 0, none⟩), .int .u64 k, .int .i64 day] w (PriceRes (priceT M k day) w) := by
  obtain ⟨bm, tv, n, V, h1, rfl, h3, rfl⟩ := h
  rw [← priceM_T]
  exact pricec_c h1 k hk day
theorem ct_sold (h : Ct F w c M K N) (k : Int) (hk : U64 k) (day : Int) : Calls Try.prog 17 #[.pointer (some ⟨c, 0, none⟩), .int .u64 k, .int .i64 day] w fun e w' => e = .returned (.bool (soldT M k day)) ∧ Below w.heap.size w w' := by
  obtain ⟨bm, tv, n, V, h1, rfl, h3, rfl⟩ := h
  rw [← soldV_T]
  exact sold_c h1 k hk day
/-- What Get tells: a plan in memory of its own. -/
def GetT (r : Pn × Int) (w : World) (e : Ending) (w' : World) : Prop := ∃ p : Pv, p.x = r.1 ∧ e = .returned (.tuple #[p.val, .int .i64 r.2]) ∧ w'.ownsRow w.heap.size TPrice 2 p.sl p.x.ps.length (flatP p.x.ps) ∧ Below w.heap.size w w'
def getT (M : Int → Option Pn) (k : Int) : Pn × Int := match M k with
  | none => (Pn.zero, 7)
  | some x => (x, 0)
theorem ct_get (h : Ct F w c M K N) (k : Int) (hk : U64 k) : Calls Try.prog 23 #[.pointer (some ⟨c, 0, none⟩), .int .u64 k] w (GetT (getT M k) w) := by
  obtain ⟨bm, tv, n, V, h1, rfl, h3, rfl⟩ := h
  refine (get_c h1 k hk).mono ?_
  rintro e w' ⟨p, hp, he, h4⟩
  have e1 : getT (mdl V) k = ((findM true V k).1.x, (findM true V k).2) := by
    unfold getT findM mdl
    cases V k <;> rfl
  rw [e1]
  exact ⟨p, hp, he, h4⟩
theorem ct_all (h : Ct F w c M K N) (hK : K.length ≤ 1000000) : Calls Try.prog 22 #[.pointer (some ⟨c, 0, none⟩)] w (AllRes M K w) := by
  obtain ⟨bm, tv, n, V, h1, rfl, h3, rfl⟩ := h
  exact alls_c h1 hK
end
end Go.Proofs.Ytakpoabpgdmneaa.Pl
