/- Package journal: owners, sorted. -/
import Derived.Test.YtnblilonjpfdnaaJnCmp
import Derived.Test.YtnblilonjpfdnaaJnShelf
import Derived.Shelf.SlSortCmp.NoneTotal
namespace Go.Proofs.Ytnblilonjpfdnaa.Jn
open Go Go.RowKit Ck Go.Sort Go.Lib Go.Shelf
/-- Keys in memory. -/
def Ows (w : World) (a : Option Addr) (K : List Key) : Prop := ∀ j (h : j < K.length), ∃ b off, a = some ⟨b, off, none⟩ ∧ b < w.heap.size ∧ ∀ k u, (kcells K[j])[k]? = some u → w.cell? ⟨b, off + j * 3 + k, none⟩ = some u
theorem Ows.later {w w' : World} {a : Option Addr} {K : List Key} (h : Ows w a K) (hb : RowKit.Below w.heap.size w w') : Ows w' a K := fun j hj => by
  obtain ⟨b, off, ha, hlt, h1⟩ := h j hj
  exact ⟨b, off, ha, Nat.lt_of_lt_of_le hlt hb.size, fun k u hu => by rw [hb.cell (by simpa using hlt)]; exact h1 k u hu⟩
def flatO (K : List Key) : List Value := K.flatMap kcells
theorem flatO_snoc (K : List Key) (k : Key) : flatO (K ++ [k]) = flatO K ++ kcells k := by unfold flatO; rw [List.flatMap_append]; simp
theorem flatO_get {L : List Key} : ∀ {j : Nat} (hj : j < L.length) (o : Nat) (_ : o < 3), (flatO L)[j * 3 + o]? = (kcells L[j])[o]? := by
  induction L with
  | nil => intro j hj; exact absurd hj (by simp)
  | cons x L ih =>
    intro j hj o ho
    have e : flatO (x :: L) = .int .i64 x.1 :: .int .u64 x.2.1 :: .int .u64 x.2.2 :: flatO L := rfl
    rw [e]
    cases j with
    | zero =>
      match o, ho with
      | 0, _ => rfl
      | 1, _ => rfl
      | 2, _ => rfl
    | succ j =>
      rw [show (j + 1) * 3 + o = (j * 3 + o) + 1 + 1 + 1 by omega, List.getElem?_cons_succ, List.getElem?_cons_succ, List.getElem?_cons_succ, List.getElem_cons_succ]
      exact ih (by simpa using hj) o ho
theorem flatO_len (K : List Key) : (flatO K).length = K.length * 3 := by
  unfold flatO
  induction K with
  | nil => rfl
  | cons x K ih => rw [List.flatMap_cons, List.length_append, ih]; simp [kcells]; omega
theorem kc_len (x : Key) : (kcells x).length = 3 := rfl
theorem holds_own {w : World} {base g cap : Nat} {K : List Key} (h : w.ownsRow base TOw 3 (.slice (some ⟨g, 0, none⟩) K.length cap) K.length (flatO K)) : HoldsK kcells 3 w g 0 K.toArray := by
  rcases h.2 with ⟨h0, _⟩ | ⟨g', cap', cur, hv, _, hh, _, _, _, ht⟩
  · cases h0
  · injection hv with h1 _ _
    injection h1 with h1
    injection h1 with h1 _ _
    subst h1
    intro j hj
    have hj' : j < K.length * 3 := by simpa [size_flatK] using hj
    refine ⟨?_, by simp [World.frozen?, hh]⟩
    have h3 := flatO_get (L := K) (j := j / 3) (by omega) (j % 3) (by omega)
    rw [show j / 3 * 3 + j % 3 = j by omega] at h3
    have h4 : cur.toList[j]? = (flatO K)[j]? := by rw [← ht, List.getElem?_take_of_lt hj']
    have h5 : (kcells (K[j / 3]'(by omega)))[j % 3]? = some (kcells (K[j / 3]'(by omega)))[j % 3]! := by
      rw [List.getElem!_eq_getElem?_getD, List.getElem?_eq_getElem (by rw [kc_len]; omega)]; rfl
    rw [get_flatK kcells 3 K.toArray j (by simpa using hj')]
    simp only [World.cell?, hh, Nat.zero_add]
    have h6 : cur[j]? = cur.toList[j]? := by simp
    rw [h6, h4, h3, h5]
    simp [show j / 3 < K.length by omega]
theorem swk_keeps {α : Type} [Inhabited α] {enc : α → List Value} {k : Nat} {w : World} {blk off n : Nat} {d : Array α} {os : Array Obj} : Keeps (fun j => j = blk) w (sortWorldK enc k w blk off n d os) := by
  refine ⟨rfl, rfl, rfl, ?_, fun j h2 h1 => ?_⟩
  · unfold sortWorldK; rw [size_grow, size_putRowK]; show w.heap.size ≤ w.heap.size + _; omega
  · unfold sortWorldK
    rw [heap_grow_old _ _ (by rw [size_putRowK]; exact h2)]
    show (w.heap.modify blk _)[j]? = _
    rw [Array.getElem?_modify, if_neg (fun e => h1 e.symm)]
theorem cmpLays (blk off size : Nat) (w : World) : CmpLays Try.prog 55 #[] kcells 3 cmpK blk off size w := fun _ _ _ _ x y => less_c x y _
theorem egT (args : Array Value) (w : World) : (callFunc 55 args).run Try.prog w = .ok (.enter 55 args) w := enters_of Try.func55 (by kernel_rfl) rfl args w
theorem sortedIn_pw {lt : Key → Key → Bool} {d : Array Key} (h : SortedIn lt 0 d.size d) : d.toList.Pairwise fun a b => lt b a = false := by
  rw [List.pairwise_iff_getElem]
  intro i j hi hj hij
  have := h i j (by omega) hij (by simpa using hj)
  simpa [getElem!_pos, show i < d.size by simpa using hi, show j < d.size by simpa using hj] using this
/-- The owners behind the sort: in order, none twice. -/
theorem sort_c (K : List Key) (hn : K.Nodup) (v : Value) (base : Nat) (w : World) (hl : K.length ≤ 1000000) (h : w.ownsRow base TOw 3 v K.length (flatO K)) :
    Calls Try.prog 54 #[v, .func (.func 55) #[] #[]] w fun e w' => e = .returned (.tuple #[]) ∧ ∃ K' a cap, v = .slice a K'.length cap ∧ K'.Perm K ∧ K'.Pairwise klt ∧ Ows w' a K' ∧ Keeps (fun j => v.ownBlock = some j) w w' := by
  have h' := h
  rcases h.2 with ⟨rfl, h0⟩ | ⟨g, cap, cur, rfl, hg, hb, _⟩
  · obtain rfl := List.length_eq_zero_iff.1 h0
    refine (AnyF.slices_SortFunc_none Try.sortOw none 0 _ w).mono ?_
    rintro e w' ⟨rfl, rfl⟩
    exact ⟨rfl, [], none, 0, rfl, List.Perm.refl _, List.Pairwise.nil, fun j hj => absurd hj (by simp), Keeps.refl _ _⟩
  · have hH := holds_own h'
    have hblk : g < w.heap.size := (Array.getElem?_eq_some_iff.1 hb).1
    have hc := AnyQ.slices_SortFunc Try.sortOw 3 (fun _ => by kernel_rfl) (fun _ => by kernel_rfl) kcells kc_len (fun x v hv => by simp [kcells] at hv; rcases hv with rfl | rfl | rfl <;> rfl) cmpK swoK 55 #[] g 0 cap K.toArray w egT (cmpLays g 0 _ w) hH hblk (by simp; omega)
    rw [List.size_toArray] at hc
    refine hc.mono ?_
    rintro e w' ⟨rfl, d', n, os, hp, hs, rfl⟩
    have hsz : d'.size = K.length := by have := hp.1; simpa using this
    have hperm : d'.toList.Perm K := by
      have := hp.2.2
      have e1 : d'.extract 0 K.length = d' := by rw [← hsz]; simp
      have e2 : K.toArray.extract 0 K.length = K.toArray := by simp
      rw [e1, e2] at this
      exact this
    have hnd : d'.toList.Nodup := hperm.nodup_iff.2 hn
    have hpw := sortedIn_pw (d := d') (by rw [hsz]; exact hs)
    have hS : SWK kcells 3 w g 0 d' (sortWorldK kcells 3 w g 0 n d' os) := ⟨n, os, rfl⟩
    have hH' := hS.holds hblk hH (by simpa using hsz)
    refine ⟨rfl, d'.toList, some ⟨g, 0, none⟩, cap, by simp [hsz], hperm, ?_, fun j hj => ?_, ?_⟩
    · refine (hpw.and hnd).imp fun {a b} hab => ?_
      have h1 : decide (cmpK b a < 0) = false := hab.1
      rw [cmpK_lt] at h1
      exact (klt_total hab.2).resolve_right (of_decide_eq_false h1)
    · have hj' : j < d'.size := by simpa using hj
      refine ⟨g, 0, rfl, Nat.lt_of_lt_of_le hblk (swk_keeps (enc := kcells) (k := 3)).size, fun k u hu => ?_⟩
      have hk : k < 3 := (List.getElem?_eq_some_iff.1 hu).1
      rw [(HoldsK.cell hH' hj' hk).1, ← hu]
      rw [getElem!_pos d' j hj', List.getElem!_eq_getElem?_getD, Array.getElem_toList, List.getElem?_eq_getElem (by rw [kc_len]; exact hk)]
      rfl
    · refine (swk_keeps (enc := kcells) (k := 3)).mono fun j hj => .inl ?_
      subst hj; rfl
end Go.Proofs.Ytnblilonjpfdnaa.Jn
