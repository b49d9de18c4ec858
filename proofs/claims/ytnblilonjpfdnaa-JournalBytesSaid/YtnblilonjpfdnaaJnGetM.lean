/- Package journal: what an entry's bytes are read as. -/
import Derived.Test.YtnblilonjpfdnaaJnPut2
namespace Go.Proofs.Ytnblilonjpfdnaa.Jn
open Go Go.RowKit Ck
/-- An entry whose bytes are B. -/
structure IsEn (B : List UInt8) (d k s : Int) (L : List Ln) : Prop where
  c : chkM d k L = 0
  r : EnR k s L
  b : enB d k s L = B
theorem IsEn.rg {B : List UInt8} {d k s : Int} {L : List Ln} (h : IsEn B d k s L) : (1 ≤ d ∧ d ≤ 3652059) ∧ (2 ≤ L.length ∧ L.length ≤ 64) ∧ (0 ≤ k ∧ k ≤ 255) ∧ (0 ≤ s ∧ s ≤ 18446744073709551615) ∧ ∀ x ∈ L, x.okB = true ∧ InR x.key := by
  obtain ⟨h1, h2, _⟩ := chk_ok' h.c
  unfold badB dayB at h1
  simp at h1
  exact ⟨by omega, by omega, h.r.k, h.r.s, fun x hx => ⟨List.all_eq_true.1 h2 x hx, h.r.l x hx⟩⟩
abbrev Cond := Int → Int → Int → List Ln → Prop
/-- Where a reader stands. -/
structure G (B : List UInt8) (is : Bool) (pre rest : List UInt8) (C : Cond) : Prop where
  yes : is = true → B = pre ++ rest ∧ ∀ d k s L, IsEn B d k s L → C d k s L
  no : is = false → ∀ d k s L, ¬ IsEn B d k s L
def nOf (o : Option (Nat × List UInt8)) : Nat := match o with | some (n, _) => n | none => 0
def rOf (o : Option (Nat × List UInt8)) : List UInt8 := match o with | some (_, r) => r | none => []
def isN (lim : Nat) (o : Option (Nat × List UInt8)) : Bool := match o with | some (n, _) => decide (n ≤ lim) | none => false
theorem nOf_lt (l : List UInt8) : nOf (Ta.take 0 l) < 18446744073709551616 := by
  cases h : Ta.take 0 l with
  | none => simp [nOf]
  | some x => exact (Ta.take_bound _ _ _ _ h).1
theorem rOf_len (l : List UInt8) : (rOf (Ta.take 0 l)).length ≤ l.length := by
  cases h : Ta.take 0 l with
  | none => simp [rOf]
  | some x => exact Nat.le_of_lt (Ta.take_bound _ _ _ _ h).2
theorem isN_all (l : List UInt8) : isN 18446744073709551615 (Ta.take 0 l) = (Ta.take 0 l).isSome := by
  cases h : Ta.take 0 l with
  | none => rfl
  | some x =>
    have := (Ta.take_bound _ _ _ _ h).1
    show decide (x.1 ≤ _) = true
    exact decide_eq_true (by omega)
theorem isN_le {lim : Nat} {o : Option (Nat × List UInt8)} (h : isN lim o = true) : nOf o ≤ lim := by
  cases o with
  | none => simp [nOf]
  | some x => exact of_decide_eq_true h
section
variable {B pre rest : List UInt8} {is : Bool} {C : Cond}
theorem G.step (h : G B is pre rest C) (lim : Nat) (hlim : lim < 18446744073709551616) (f : Int → Int → Int → List Ln → Nat) (tl : Int → Int → Int → List Ln → List UInt8)
    (hC : ∀ d k s L, IsEn B d k s L → C d k s L → rest = Ta.num (f d k s L) ++ tl d k s L ∧ f d k s L ≤ lim) :
    G B (is && isN lim (Ta.take 0 rest)) (pre ++ Ta.num (nOf (Ta.take 0 rest))) (rOf (Ta.take 0 rest)) (fun d k s L => C d k s L ∧ f d k s L = nOf (Ta.take 0 rest) ∧ tl d k s L = rOf (Ta.take 0 rest)) := by
  constructor
  · intro hi
    rw [Bool.and_eq_true] at hi
    obtain ⟨h1, h2⟩ := h.yes hi.1
    cases ht : Ta.take 0 rest with
    | none => rw [ht] at hi; simp [isN] at hi
    | some x =>
      obtain ⟨n, r⟩ := x
      have e := Ta.take_once _ _ _ _ ht
      rw [Ta.up_zero, List.nil_append] at e
      refine ⟨by show B = pre ++ Ta.num n ++ r; rw [List.append_assoc, e, h1], fun d k s L hE => ?_⟩
      obtain ⟨e2, e3⟩ := hC d k s L hE (h2 d k s L hE)
      have e4 := Ta.take_back (f d k s L) (tl d k s L) (by omega)
      rw [← e2, ht] at e4
      obtain ⟨e5, e6⟩ := Prod.mk.inj (Option.some.inj e4)
      exact ⟨h2 d k s L hE, e5.symm, e6.symm⟩
  · intro hi d k s L hE
    cases is with
    | false => exact h.no rfl d k s L hE
    | true =>
      obtain ⟨e2, e3⟩ := hC d k s L hE ((h.yes rfl).2 d k s L hE)
      have e4 := Ta.take_back (f d k s L) (tl d k s L) (by omega)
      rw [← e2] at e4
      rw [e4] at hi
      simp [isN] at hi
      omega
theorem G.weak {C' : Cond} (h : G B is pre rest C) (hC : ∀ d k s L, IsEn B d k s L → C d k s L → C' d k s L) : G B is pre rest C' := ⟨fun hi => ⟨(h.yes hi).1, fun d k s L hE => hC d k s L hE ((h.yes hi).2 d k s L hE)⟩, h.no⟩
theorem G.start (B : List UInt8) : G B true [] B (fun _ _ _ _ => True) := ⟨fun _ => ⟨rfl, fun _ _ _ _ _ => trivial⟩, fun h => by cases h⟩
end
def lnZ : Ln := ⟨0, 0, 0, 0⟩
def ent (L : List Ln) (i : Nat) : Ln := L.getD i lnZ
def C1 (D : Nat) (r : List UInt8) : Cond := fun d k s L => d.toNat = D ∧ Ta.num k.toNat ++ (Ta.num s.toNat ++ (Ta.num L.length ++ linesB L)) = r
def C2 (D K : Nat) (r : List UInt8) : Cond := fun d k s L => d.toNat = D ∧ k.toNat = K ∧ Ta.num s.toNat ++ (Ta.num L.length ++ linesB L) = r
def C3 (D K S : Nat) (r : List UInt8) : Cond := fun d k s L => d.toNat = D ∧ k.toNat = K ∧ s.toNat = S ∧ Ta.num L.length ++ linesB L = r
def CL (D K S N : Nat) (A : List Ln) (r : List UInt8) : Cond := fun d k s L => (d.toNat = D ∧ k.toNat = K ∧ s.toNat = S ∧ L.length = N) ∧ L.take A.length = A ∧ linesB (L.drop A.length) = r
def CL1 (D K S N : Nat) (A : List Ln) (a : Nat) (r : List UInt8) : Cond := fun d k s L => (d.toNat = D ∧ k.toNat = K ∧ s.toNat = S ∧ L.length = N) ∧ L.take A.length = A ∧ (ent L A.length).acc.toNat = a ∧ Ta.num (ent L A.length).cus.toNat ++ (Ta.num (ent L A.length).con.toNat ++ (Ta.num (Tal.zig (ent L A.length).amt) ++ linesB (L.drop (A.length + 1)))) = r
def CL2 (D K S N : Nat) (A : List Ln) (a b : Nat) (r : List UInt8) : Cond := fun d k s L => (d.toNat = D ∧ k.toNat = K ∧ s.toNat = S ∧ L.length = N) ∧ L.take A.length = A ∧ (ent L A.length).acc.toNat = a ∧ (ent L A.length).cus.toNat = b ∧ Ta.num (ent L A.length).con.toNat ++ (Ta.num (Tal.zig (ent L A.length).amt) ++ linesB (L.drop (A.length + 1))) = r
def CL3 (D K S N : Nat) (A : List Ln) (a b c : Nat) (r : List UInt8) : Cond := fun d k s L => (d.toNat = D ∧ k.toNat = K ∧ s.toNat = S ∧ L.length = N) ∧ L.take A.length = A ∧ (ent L A.length).acc.toNat = a ∧ (ent L A.length).cus.toNat = b ∧ (ent L A.length).con.toNat = c ∧ Ta.num (Tal.zig (ent L A.length).amt) ++ linesB (L.drop (A.length + 1)) = r
theorem ent_at {L : List Ln} {i : Nat} (h : i < L.length) : ent L i = L[i] := by unfold ent; rw [List.getD_eq_getElem?_getD, List.getElem?_eq_getElem h]; rfl
section
variable {B pre rest : List UInt8} {is : Bool} {D K S N a b c : Nat} {A : List Ln}
theorem G.s1 (h : G B is pre B (fun _ _ _ _ => True)) : G B (is && isN 3652059 (Ta.take 0 B)) (pre ++ Ta.num (nOf (Ta.take 0 B))) (rOf (Ta.take 0 B)) (C1 (nOf (Ta.take 0 B)) (rOf (Ta.take 0 B))) := by
  refine (h.step 3652059 (by omega) (fun d _ _ _ => d.toNat) (fun _ k s L => Ta.num k.toNat ++ (Ta.num s.toNat ++ (Ta.num L.length ++ linesB L))) fun d k s L hE _ => ?_).weak fun d k s L _ hc => hc.2
  have := hE.rg.1
  refine ⟨?_, by omega⟩
  have e := hE.b
  unfold enB headB at e
  simp only [List.append_assoc] at e
  exact e.symm
theorem G.s2 (h : G B is pre rest (C1 D rest)) : G B (is && isN 255 (Ta.take 0 rest)) (pre ++ Ta.num (nOf (Ta.take 0 rest))) (rOf (Ta.take 0 rest)) (C2 D (nOf (Ta.take 0 rest)) (rOf (Ta.take 0 rest))) := by
  refine (h.step 255 (by omega) (fun _ k _ _ => k.toNat) (fun _ _ s L => Ta.num s.toNat ++ (Ta.num L.length ++ linesB L)) fun d k s L hE hc => ?_).weak fun d k s L _ hc => ⟨hc.1.1, hc.2.1, hc.2.2⟩
  have := hE.rg.2.2.1
  exact ⟨hc.2.symm, by omega⟩
theorem G.s3 (h : G B is pre rest (C2 D K rest)) : G B (is && isN 18446744073709551615 (Ta.take 0 rest)) (pre ++ Ta.num (nOf (Ta.take 0 rest))) (rOf (Ta.take 0 rest)) (C3 D K (nOf (Ta.take 0 rest)) (rOf (Ta.take 0 rest))) := by
  refine (h.step 18446744073709551615 (by omega) (fun _ _ s _ => s.toNat) (fun _ _ _ L => Ta.num L.length ++ linesB L) fun d k s L hE hc => ?_).weak fun d k s L _ hc => ⟨hc.1.1, hc.1.2.1, hc.2.1, hc.2.2⟩
  have := hE.rg.2.2.2.1
  exact ⟨hc.2.2.symm, by omega⟩
theorem G.s4 (h : G B is pre rest (C3 D K S rest)) : G B (is && isN 64 (Ta.take 0 rest)) (pre ++ Ta.num (nOf (Ta.take 0 rest))) (rOf (Ta.take 0 rest)) (CL D K S (nOf (Ta.take 0 rest)) [] (rOf (Ta.take 0 rest))) := by
  refine (h.step 64 (by omega) (fun _ _ _ L => L.length) (fun _ _ _ L => linesB L) fun d k s L hE hc => ?_).weak fun d k s L _ hc => ⟨⟨hc.1.1, hc.1.2.1, hc.1.2.2.1, hc.2.1⟩, rfl, hc.2.2⟩
  have := hE.rg.2.1
  exact ⟨hc.2.2.2.symm, by omega⟩
theorem G.l1 (h : G B is pre rest (CL D K S N A rest)) (hA : A.length < N) : G B (is && isN 9999 (Ta.take 0 rest)) (pre ++ Ta.num (nOf (Ta.take 0 rest))) (rOf (Ta.take 0 rest)) (CL1 D K S N A (nOf (Ta.take 0 rest)) (rOf (Ta.take 0 rest))) := by
  refine (h.step 9999 (by omega) (fun _ _ _ L => (ent L A.length).acc.toNat) (fun _ _ _ L => Ta.num (ent L A.length).cus.toNat ++ (Ta.num (ent L A.length).con.toNat ++ (Ta.num (Tal.zig (ent L A.length).amt) ++ linesB (L.drop (A.length + 1))))) fun d k s L hE hc => ?_).weak fun d k s L _ hc => ⟨hc.1.1, hc.1.2.1, hc.2.1, hc.2.2⟩
  have hi : A.length < L.length := by have := hc.1.2.2.2; omega
  have := okB_amt (hE.rg.2.2.2.2 _ (List.getElem_mem hi)).1
  rw [ent_at hi]
  refine ⟨?_, by omega⟩
  rw [← hc.2.2, List.drop_eq_getElem_cons hi]
  show lnB L[A.length] ++ linesB _ = _
  unfold lnB
  simp only [List.append_assoc]
theorem G.l2 (h : G B is pre rest (CL1 D K S N A a rest)) (hA : A.length < N) : G B (is && isN 18446744073709551615 (Ta.take 0 rest)) (pre ++ Ta.num (nOf (Ta.take 0 rest))) (rOf (Ta.take 0 rest)) (CL2 D K S N A a (nOf (Ta.take 0 rest)) (rOf (Ta.take 0 rest))) := by
  refine (h.step 18446744073709551615 (by omega) (fun _ _ _ L => (ent L A.length).cus.toNat) (fun _ _ _ L => Ta.num (ent L A.length).con.toNat ++ (Ta.num (Tal.zig (ent L A.length).amt) ++ linesB (L.drop (A.length + 1)))) fun d k s L hE hc => ?_).weak fun d k s L _ hc => ⟨hc.1.1, hc.1.2.1, hc.1.2.2.1, hc.2.1, hc.2.2⟩
  have hi : A.length < L.length := by have := hc.1.2.2.2; omega
  have := (hE.rg.2.2.2.2 _ (List.getElem_mem hi)).2.2.1
  refine ⟨hc.2.2.2.symm, ?_⟩
  rw [ent_at hi]
  simp only [Ln.key] at this
  omega
theorem G.l3 (h : G B is pre rest (CL2 D K S N A a b rest)) (hA : A.length < N) : G B (is && isN 18446744073709551615 (Ta.take 0 rest)) (pre ++ Ta.num (nOf (Ta.take 0 rest))) (rOf (Ta.take 0 rest)) (CL3 D K S N A a b (nOf (Ta.take 0 rest)) (rOf (Ta.take 0 rest))) := by
  refine (h.step 18446744073709551615 (by omega) (fun _ _ _ L => (ent L A.length).con.toNat) (fun _ _ _ L => Ta.num (Tal.zig (ent L A.length).amt) ++ linesB (L.drop (A.length + 1))) fun d k s L hE hc => ?_).weak fun d k s L _ hc => ⟨hc.1.1, hc.1.2.1, hc.1.2.2.1, hc.1.2.2.2.1, hc.2.1, hc.2.2⟩
  have hi : A.length < L.length := by have := hc.1.2.2.2; omega
  have := (hE.rg.2.2.2.2 _ (List.getElem_mem hi)).2.2.2
  refine ⟨hc.2.2.2.2.symm, ?_⟩
  rw [ent_at hi]
  simp only [Ln.key] at this
  omega
theorem G.l4 (h : G B is pre rest (CL3 D K S N A a b c rest)) (hA : A.length < N) : G B (is && isN 18446744073709551615 (Ta.take 0 rest)) (pre ++ Ta.num (nOf (Ta.take 0 rest))) (rOf (Ta.take 0 rest)) (CL D K S N (A ++ [⟨(a : Int), (b : Int), (c : Int), Tal.unz (nOf (Ta.take 0 rest))⟩]) (rOf (Ta.take 0 rest))) := by
  refine (h.step 18446744073709551615 (by omega) (fun _ _ _ L => Tal.zig (ent L A.length).amt) (fun _ _ _ L => linesB (L.drop (A.length + 1))) fun d k s L hE hc => ?_).weak fun d k s L hE hc => ?_
  · have hi : A.length < L.length := by have := hc.1.2.2.2; omega
    have := okB_amt (hE.rg.2.2.2.2 _ (List.getElem_mem hi)).1
    refine ⟨hc.2.2.2.2.2.symm, ?_⟩
    rw [ent_at hi]
    have := Tal.zig_lt (L[A.length]).amt (by omega) (by omega)
    omega
  · obtain ⟨⟨h1, h2, h3, h4, h5, _⟩, h6, h7⟩ := hc
    have hi : A.length < L.length := by have := h1.2.2.2; omega
    have hr := hE.rg.2.2.2.2 _ (List.getElem_mem hi)
    have h0 := okB_amt hr.1
    have h8 := hr.2.2
    rw [ent_at hi] at h3 h4 h5 h6
    obtain ⟨x, hx⟩ : ∃ x, x = L[A.length] := ⟨_, rfl⟩
    refine ⟨h1, ?_, by rw [List.length_append]; exact h7⟩
    rw [List.length_append, List.length_singleton, List.take_succ_eq_append_getElem hi, h2]
    congr 1
    congr 1
    rw [← hx] at h0 h3 h4 h5 h6 h8 ⊢
    clear hx hr
    obtain ⟨xa, xb, xc, xd⟩ := x
    simp only [Ln.key] at h0 h3 h4 h5 h6 h8
    rw [← h6, Tal.unz_zig]
    rw [Ln.mk.injEq]
    exact ⟨by omega, by omega, by omega, rfl⟩
/-- At the end. -/
theorem G.same (h : G B is pre rest (CL D K S N A rest)) (hi : is = true) (hA : A.length = N) {d k s : Int} {L : List Ln} (hE : IsEn B d k s L) : d = (D : Int) ∧ k = (K : Int) ∧ s = (S : Int) ∧ L = A ∧ rest = [] := by
  obtain ⟨⟨h1, h2, h3, h4⟩, h5, h6⟩ := (h.yes hi).2 d k s L hE
  have := hE.rg
  rw [hA, ← h4, List.take_length] at h5
  rw [hA, ← h4, List.drop_length] at h6
  exact ⟨by omega, by omega, by omega, h5, h6.symm⟩
theorem G.all (h : G B is pre [] (CL D K S N A [])) (hi : is = true) (hp : pre = enB (D : Int) (K : Int) (S : Int) A) (hc : chkM (D : Int) (K : Int) A = 0) (hr : EnR (K : Int) (S : Int) A) : IsEn B (D : Int) (K : Int) (S : Int) A := ⟨hc, hr, by rw [← hp, (h.yes hi).1, List.append_nil]⟩
end
theorem num_inj {m n : Nat} {r t : List UInt8} (hm : m < 18446744073709551616) (hn : n < 18446744073709551616) (h : Ta.num m ++ r = Ta.num n ++ t) : m = n ∧ r = t := by
  have e1 := Ta.take_back m r hm
  rw [h, Ta.take_back n t hn] at e1
  obtain ⟨h1, h2⟩ := Prod.mk.inj (Option.some.inj e1)
  exact ⟨h1.symm, h2.symm⟩
theorem linesB_inj : ∀ (L L' : List Ln), (∀ x ∈ L, x.okB = true ∧ InR x.key) → (∀ x ∈ L', x.okB = true ∧ InR x.key) → L.length = L'.length → linesB L = linesB L' → L = L'
  | [], [], _, _, _, _ => rfl
  | [], _ :: _, _, _, h, _ => by simp at h
  | _ :: _, [], _, _, h, _ => by simp at h
  | x :: L, y :: L', h1, h2, h3, h4 => by
    have e : lnB x ++ linesB L = lnB y ++ linesB L' := h4
    obtain ⟨o1, r1⟩ := h1 x (by simp)
    obtain ⟨o2, r2⟩ := h2 y (by simp)
    have a1 := okB_amt o1
    have a2 := okB_amt o2
    have b1 := r1.2
    have b2 := r2.2
    simp only [Ln.key] at b1 b2
    have z1 := Tal.zig_lt x.amt (by omega) (by omega)
    have z2 := Tal.zig_lt y.amt (by omega) (by omega)
    unfold lnB at e
    simp only [List.append_assoc] at e
    obtain ⟨c1, e⟩ := num_inj (by omega) (by omega) e
    obtain ⟨c2, e⟩ := num_inj (by omega) (by omega) e
    obtain ⟨c3, e⟩ := num_inj (by omega) (by omega) e
    obtain ⟨c4, e⟩ := num_inj z1 z2 e
    have c5 := congrArg Tal.unz c4
    rw [Tal.unz_zig, Tal.unz_zig] at c5
    have hxy : x = y := by
      obtain ⟨xa, xb, xc, xd⟩ := x
      obtain ⟨ya, yb, yc, yd⟩ := y
      simp only at a1 a2 b1 b2 c1 c2 c3 c5
      rw [Ln.mk.injEq]
      exact ⟨by omega, by omega, by omega, c5⟩
    rw [hxy, linesB_inj L L' (fun z hz => h1 z (by simp [hz])) (fun z hz => h2 z (by simp [hz])) (by simpa using h3) e]
theorem isEn_uniq {B : List UInt8} {d k s d' k' s' : Int} {L L' : List Ln} (h : IsEn B d k s L) (h' : IsEn B d' k' s' L') : d = d' ∧ k = k' ∧ s = s' ∧ L = L' := by
  have g := h.rg
  have g' := h'.rg
  have e := h.b.trans h'.b.symm
  unfold enB headB at e
  simp only [List.append_assoc] at e
  obtain ⟨c1, e⟩ := num_inj (by omega) (by omega) e
  obtain ⟨c2, e⟩ := num_inj (by omega) (by omega) e
  obtain ⟨c3, e⟩ := num_inj (by omega) (by omega) e
  obtain ⟨c4, e⟩ := num_inj (by omega) (by omega) e
  exact ⟨by omega, by omega, by omega, linesB_inj L L' g.2.2.2.2 g'.2.2.2.2 c4 e⟩
/-- What a reader leaves. -/
def GetR (B : List UInt8) (w : World) (e : Ending) (w' : World) : Prop := Below w.heap.size w w' ∧ ((∃ d k s L v, IsEn B d k s L ∧ e = .returned (.tuple #[.agg #[.int .i64 d, .int .u8 k, .int .u64 s, v], .int .i64 0]) ∧ w'.ownsRow w.heap.size TLine 4 v L.length (flatL L)) ∨ ((∀ d k s L, ¬ IsEn B d k s L) ∧ e = .returned (.tuple #[zeroEn, .int .i64 5])))
end Go.Proofs.Ytnblilonjpfdnaa.Jn
