/- Package journal: amounts as a map has them, by what lines have in common. -/
import Derived.Test.YtnblilonjpfdnaaJnMath
import Derived.Maps.OwnSet
import Derived.Maps.AppendAt
import Derived.WideKeyEntry
import Derived.DeepKeys4
namespace Go.Proofs.Ytnblilonjpfdnaa.Jn
open Go Go.RowKit Ck Go.Maps Go.WideElems
open Go.ChangeMaps (setBlock heap_setBlock_same heap_setBlock_other)
abbrev TOw : TypeId := 103
abbrev TOM : TypeId := 100
def kcells (k : Key) : List Value := [.int .i64 k.1, .int .u64 k.2.1, .int .u64 k.2.2]
def kv (k : Key) : Value := .agg #[.int .i64 k.1, .int .u64 k.2.1, .int .u64 k.2.2]
def InR (k : Key) : Prop := (-9223372036854775808 ≤ k.1 ∧ k.1 ≤ 9223372036854775807) ∧ (0 ≤ k.2.1 ∧ k.2.1 ≤ 18446744073709551615) ∧ (0 ≤ k.2.2 ∧ k.2.2 ≤ 18446744073709551615)
theorem laidOut : laidOutB Try.prog = true := by kernel_rfl
theorem rowOw : TOw < Try.prog.types.size := of_decide_eq_true (by kernel_rfl)
theorem wideOw : (match Try.prog.underlying TOw with | some (.array _ _) | some (.struct _) => true | _ => false) = true := by kernel_rfl
set_option maxRecDepth 100000 in
theorem lawOw : WideMaps.KeyLaw Try.prog TOw := deep_law_laid laidOut (m := 3) (by omega) rowOw (by kernel_rfl) wideOw
theorem keyedOw : Keyed Try.prog TOw := Keyed.of_law lawOw
/-- What a key reads as. -/
def kl (k : Key) : Lit := .string (keyBytes [.int .i64 k.1, .int .u64 k.2.1, .int .u64 k.2.2])
theorem keyTyOw : Try.prog.keyType TOw = true := by kernel_rfl
theorem cellsOw : Try.prog.cellsOf TOw = 3 := by kernel_rfl
theorem under0 : Try.prog.underlying 3 = some (.int .i64) := by kernel_rfl
theorem under1 : Try.prog.underlying 22 = some (.int .u64) := by kernel_rfl
theorem cells0 : Try.prog.cellsOf 3 = 1 := by kernel_rfl
theorem cells1 : Try.prog.cellsOf 22 = 1 := by kernel_rfl
theorem size0 : ∃ m, Try.prog.types.size = m + 1 := ⟨Try.prog.types.size - 1, by have h : 0 < Try.prog.types.size := Nat.lt_of_le_of_lt (Nat.zero_le _) rowOw; omega⟩
theorem wf_i {a : Int} (h : -9223372036854775808 ≤ a ∧ a ≤ 9223372036854775807) : (Lit.int .i64 a).wf = true := WalkArith.wf_i64 h
theorem wf_u {a : Int} (h : 0 ≤ a ∧ a ≤ 18446744073709551615) : (Lit.int .u64 a).wf = true := WalkArith.wf_u64 h
theorem key_of {k : Key} (h : InR k) : keyOf Try.prog TOw (kv k) = some (kl k) := by
  obtain ⟨a, b, c⟩ := k
  obtain ⟨h1, h2, h3⟩ := h
  have w1 := wf_i h1
  have w2 := wf_u h2
  have w3 := wf_u h3
  obtain ⟨m, hm⟩ := size0
  unfold keyOf kv kl
  simp only [Try.underlying103]
  rw [if_pos (by simp [keyTyOw, Value.formed, Try.underlying103, cellsOw]), hm]
  unfold Program.keyLits
  simp only [Try.underlying103, Value.cells]
  rw [if_pos (by rw [cellsOw]; exact ⟨rfl, by kernel_rfl⟩)]
  simp [Program.keyLits, cells0, cells1, w1, w2, w3]
theorem kl_key (k : Key) : WideAt.IsKeyLit (kl k) := by unfold kl; trivial
theorem kv_inj {k k' : Key} (h : kv k = kv k') : k = k' := by
  obtain ⟨a, b, c⟩ := k
  obtain ⟨a', b', c'⟩ := k'
  unfold kv at h
  simp at h
  obtain ⟨rfl, rfl, rfl⟩ := h
  rfl
theorem kl_inj {k k' : Key} (h : InR k) (h' : InR k') (e : kl k = kl k') : k = k' := kv_inj (keyedOw.inj (key_of h) (e ▸ key_of h'))
/-- A slice as it is kept. -/
structure Sl where
  g : Option Nat
  n : Nat
  cap : Nat
def Sl.zero : Sl := ⟨none, 0, 0⟩
def adr (g : Option Nat) : Option Addr := g.map fun g => ⟨g, 0, none⟩
def place (g : Option Nat) : Int := match g with | none => -1 | some g => (g : Int)
theorem place_inj {g g' : Option Nat} (h : place g = place g') : g = g' := by
  cases g with
  | none =>
    cases g' with
    | none => rfl
    | some b => simp only [place] at h; omega
  | some a =>
    cases g' with
    | none => simp only [place] at h; omega
    | some b =>
      simp only [place] at h
      rw [show a = b by omega]
def Sl.val (p : Sl) : Value := .slice (adr p.g) p.n p.cap
def Sl.dat (p : Sl) : DataW Unit := .agg [.lit (.int .i64 (place p.g)), .lit (.int .i64 (p.n : Int)), .lit (.int .i64 (p.cap : Int))]
/-- How it reads. -/
def slR : Value → Option (DataW Unit × List MemPlace)
  | .slice none n cap => some (Sl.dat ⟨none, n, cap⟩, [])
  | .slice (some ⟨g, 0, none⟩) n cap => some (Sl.dat ⟨some g, n, cap⟩, [])
  | _ => none
theorem slR_val (p : Sl) : slR p.val = some (p.dat, []) := by
  obtain ⟨g, n, cap⟩ := p
  cases g <;> rfl
theorem dat_inj {p q : Sl} (h : p.dat = q.dat) : p = q := by
  obtain ⟨g, n, cap⟩ := p
  obtain ⟨g', n', cap'⟩ := q
  simp [Sl.dat] at h
  obtain ⟨h1, h2, h3⟩ := h
  obtain rfl := place_inj h1
  obtain rfl : n = n' := by omega
  obtain rfl : cap = cap' := by omega
  rfl
theorem slR_inv {v : Value} {p : Sl} {ps : List MemPlace} (h : slR v = some (p.dat, ps)) : v = p.val := by
  unfold slR at h
  split at h
  · injection h with h
    injection h with h _
    rw [← dat_inj h]; rfl
  · injection h with h
    injection h with h _
    rw [← dat_inj h]; rfl
  · cases h
/-- A map's datum is a function of the keys. -/
structure Ag (D : DataW Unit) (V : Key → Option Sl) : Prop where
  m : IsMap D
  at' : ∀ c, InR c → D.atKey (kl c) Sl.zero.dat = ((V c).getD Sl.zero).dat
theorem Ag.empty : Ag (.map []) (fun _ => none) := ⟨isMap_empty, fun _ _ => rfl⟩
def upd (V : Key → Option Sl) (k : Key) (x : Sl) : Key → Option Sl := fun c => if c = k then some x else V c
theorem upd_same (V : Key → Option Sl) (k : Key) (x : Sl) : upd V k x k = some x := by unfold upd; rw [if_pos rfl]
theorem upd_other (V : Key → Option Sl) {k c : Key} (x : Sl) (h : c ≠ k) : upd V k x c = V c := by unfold upd; rw [if_neg h]
theorem Ag.put {D : DataW Unit} {V : Key → Option Sl} (h : Ag D V) {k : Key} (hk : InR k) (x : Sl) : Ag (D.put (kl k) x.dat) (upd V k x) := by
  refine ⟨h.m.put _ _, fun c hc => ?_⟩
  by_cases e : c = k
  · subst e
    rw [upd_same, atKey_put_same h.m (kl_key _)]; rfl
  · rw [upd_other _ _ e, atKey_put_other (fun e' => e (kl_inj hc hk e'))]
    exact h.at' c hc
/-- The map, and a row for each key. -/
structure Mp (w : World) (b base n : Nat) (V : Key → Option Sl) (L : List Ln) : Prop where
  mp : ∃ D : DataW Unit, w.ownsMap Try.prog TOw slR b n D ∧ Ag D V
  lt : b < base
  dom : ∀ c, (V c).isSome = true ↔ ofKey L c ≠ []
  row : ∀ c p, V c = some p → w.ownsRow base TI64 1 p.val (ofKey L c).length ((ofKey L c).map iv)
  dis : ∀ c c' p p' g, V c = some p → V c' = some p' → p.g = some g → p'.g = some g → c = c'
theorem Mp.made (w : World) : Mp (w.alloc (.map #[] 0)) w.heap.size (w.heap.size + 1) 0 (fun _ => none) [] :=
  ⟨⟨_, World.ownsMap_made w _ _ _, Ag.empty⟩, Nat.lt_succ_self _, fun c => ⟨fun h => (by cases h), fun h => absurd (ofKey_ne.2 (by simp)) h⟩, fun c p h => (by cases h), fun c c' p p' g h => (by cases h)⟩
theorem map_keeps {w w' : World} {T : Nat → Prop} {b n : Nat} {D : DataW Unit} (h : w.ownsMap Try.prog TOw slR b n D) (k : Keeps T w w') (hT : ¬ T b) : w'.ownsMap Try.prog TOw slR b n D := by
  have hlt := h.lt
  obtain ⟨es, clock, hb, r⟩ := h
  exact ⟨es, clock, (k.block b hlt hT).trans hb, r⟩
theorem sl_own {p : Sl} {j : Nat} (h : p.val.ownBlock = some j) : p.g = some j := by
  obtain ⟨g, n, cap⟩ := p
  cases g with
  | none => cases h
  | some g => exact h
theorem own_sl {p : Sl} {j : Nat} (h : p.g = some j) : p.val.ownBlock = some j := by
  obtain ⟨g, n, cap⟩ := p
  simp only at h
  subst h
  rfl
section
variable {w w' : World} {b base n : Nat} {V : Key → Option Sl} {L : List Ln}
theorem Mp.keeps {T : Nat → Prop} (h : Mp w b base n V L) (k : Keeps T w w') (hb : ¬ T b) (hT : ∀ c p j, V c = some p → p.g = some j → ¬ T j) : Mp w' b base n V L := by
  obtain ⟨D, h1, h2⟩ := h.mp
  exact ⟨⟨D, map_keeps h1 k hb, h2⟩, h.lt, h.dom, fun c p hp => own_keeps (h.row c p hp) k fun j hj => hT c p j hp (sl_own hj), h.dis⟩
theorem Mp.later (h : Mp w b base n V L) (k : Below w.heap.size w w') : Mp w' b base n V L := h.keeps (Keeps.of (fun _ => False) k) (fun h => h) fun _ _ _ _ _ h => h
theorem Mp.blt (h : Mp w b base n V L) : b < w.heap.size := by
  obtain ⟨D, h1, _⟩ := h.mp
  exact h1.lt
theorem Mp.ge (h : Mp w b base n V L) {c : Key} {p : Sl} {j : Nat} (hp : V c = some p) (hj : p.g = some j) : base ≤ j ∧ j < w.heap.size := (h.row c p hp).lt j (own_sl hj)
theorem Mp.mono (h : Mp w b base n V L) {n' : Nat} (hn : n ≤ n') : Mp w b base n' V L := by
  obtain ⟨D, h1, h2⟩ := h.mp
  exact ⟨⟨D, h1.mono hn, h2⟩, h.lt, h.dom, h.row, h.dis⟩
/-- A block of another type, or none of the map's, is no block of it. -/
theorem Mp.ne_type (h : Mp w b base n V L) {g : Nat} {t : TypeId} {xs : Array Value} {r : Nat × Nat} (hg : w.heap[g]? = some (.cells xs t r)) (ht : t ≠ TI64) : g ≠ b ∧ ∀ c p, V c = some p → p.g ≠ some g := by
  obtain ⟨D, h1, _⟩ := h.mp
  refine ⟨fun e => ?_, fun c p hp e => ?_⟩
  · obtain ⟨es, clock, hb, _⟩ := h1
    subst e
    have := hg.symm.trans hb
    injection this with this
    cases this
  · rcases (h.row c p hp).2 with ⟨h0, _⟩ | ⟨g', cap, cur, hv, _, hg', _⟩
    · have := own_sl e
      rw [h0] at this
      cases this
    · have := own_sl e
      rw [hv] at this
      injection this with this
      simp only at this
      subst this
      have := hg.symm.trans hg'
      injection this with this
      injection this with _ h2
      exact ht h2
end
theorem zeroSl (w : World) : (zeroValue TI64s).run Try.prog w = .ok (.slice none 0 0) w := by kernel_rfl
theorem underOM : Try.prog.underlying TOM = some (.map TOw TI64s) := Try.underlying100
theorem some_len {p : Sl} {w : World} {base N : Nat} {xs : List Value} (h : w.ownsRow base TI64 1 p.val N xs) (hN : N ≠ 0) : ∃ g, p.val = .slice (some ⟨g, 0, none⟩) N p.cap := by
  obtain ⟨g, m, cap⟩ := p
  rcases h.2 with ⟨_, h0⟩ | ⟨g', cap', cur, hv, _⟩
  · exact absurd h0 hN
  · unfold Sl.val at hv
    injection hv with h1 h2 h3
    refine ⟨g', ?_⟩
    unfold Sl.val
    simp only at h1 h2 ⊢
    rw [h1, h2]
set_option maxRecDepth 100000
/-- m[k]. -/
theorem Mp.look {w : World} {b base n : Nat} {V : Key → Option Sl} {L : List Ln} (h : Mp w b base n V L) {k : Key} (hk : InR k) :
    (Instr.lookup TOM (.map (some b)) (kv k) false).run Try.prog w = .ok ((V k).getD Sl.zero).val w ∧ w.ownsRow base TI64 1 ((V k).getD Sl.zero).val (ofKey L k).length ((ofKey L k).map iv) ∧ ((((V k).getD Sl.zero).val = .slice none 0 0 ∧ ofKey L k = []) ∨ (∃ g cap, ((V k).getD Sl.zero).val = .slice (some ⟨g, 0, none⟩) (ofKey L k).length cap) ∧ ofKey L k ≠ []) := by
  obtain ⟨D, h1, h2⟩ := h.mp
  obtain ⟨v, ps, hrun, hv⟩ := h1.lookup keyedOw underOM (zeroSl w) (slR_val Sl.zero) (key_of hk)
  rw [h2.at' k hk] at hv
  obtain rfl := slR_inv hv
  refine ⟨hrun, ?_⟩
  have hd := h.dom k
  cases hV : V k with
  | none =>
    rw [hV] at hd
    have h0 : ofKey L k = [] := Classical.byContradiction fun hn => by have := hd.2 hn; cases this
    rw [h0]
    exact ⟨World.ownsRow_nil _ _ _ _, .inl ⟨rfl, rfl⟩⟩
  | some p =>
    rw [hV] at hd
    have h0 := hd.1 rfl
    have hr := h.row k p hV
    refine ⟨hr, .inr ⟨?_, h0⟩⟩
    obtain ⟨g, hg⟩ := some_len hr (fun e => h0 (List.length_eq_zero_iff.1 e))
    exact ⟨g, p.cap, hg⟩
theorem one_key {l : List MapEntry} (h : l.Pairwise fun x y => x.key ≠ y.key) {a b : MapEntry} (ha : a ∈ l) (hb : b ∈ l) (e : a.key = b.key) : a = b := by
  obtain ⟨i, hi, rfl⟩ := List.getElem_of_mem ha
  obtain ⟨j, hj, rfl⟩ := List.getElem_of_mem hb
  rcases Nat.lt_trichotomy i j with h1 | h1 | h1
  · exact absurd e (List.pairwise_iff_getElem.1 h i j hi hj h1)
  · subst h1; rfl
  · exact absurd e.symm (List.pairwise_iff_getElem.1 h j i hj hi h1)
/-- m[k] = append(m[k], n). -/
theorem Mp.entry {w : World} {b base n : Nat} {V : Key → Option Sl} {L : List Ln} (h : Mp w b base n V L) (x : Ln) (hx : InR x.key) (hn : n < maxLen) :
    ∃ st w1, (Instr.mapEntry TOM (.map (some b)) (kv x.key)).run Try.prog w = .ok (.tuple #[((V x.key).getD Sl.zero).val, goInt st]) w1 ∧ w.grownBy w1 (some b) ∧ w1.heap.size = w.heap.size ∧ w1.ownsRow base TI64 1 ((V x.key).getD Sl.zero).val (ofKey L x.key).length ((ofKey L x.key).map iv) ∧
      ∀ w2 v', w1.grownBy w2 ((V x.key).getD Sl.zero).val.ownBlock → w2.ownsRow base TI64 1 v' ((ofKey L x.key).length + 1) ((ofKey L x.key).map iv ++ [iv x.amt]) → (v'.ownBlock = ((V x.key).getD Sl.zero).val.ownBlock ∨ v'.ownBlock = some w1.heap.size) →
        ∃ w3 V', (Instr.entryStore TOM (.map (some b)) (goInt st) v').run Try.prog w2 = .ok () w3 ∧ w2.grownBy w3 (some b) ∧ Mp w3 b base (n + 1) V' (L ++ [x]) := by
  have hlook := h.look hx
  obtain ⟨D, h1, h2⟩ := h.mp
  have h1' := h1
  obtain ⟨es, clock, hb, F, hs, rfl⟩ := h1
  have hblt : b < w.heap.size := (Array.getElem?_eq_some_iff.1 hb).1
  obtain ⟨v0, st, es1, clock1, hrun, hwho, hst⟩ := entry_then_store lawOw underOM (zeroSl) hb F (key_of hx)
  obtain rfl : v0 = ((V x.key).getD Sl.zero).val := by
    rcases Maps.fit_look false keyedOw underOM (zeroSl w) hb F (key_of hx) with ⟨hr, hno, _⟩ | ⟨e0, y, hm0, h3, hr, _⟩
    · have hz := hlook.1.symm.trans hr
      simp only [Bool.false_eq_true, if_false, Result.ok.injEq, and_true] at hz
      rcases hwho with ⟨e1, hm1, hk1, rfl⟩ | ⟨_, rfl⟩
      · exact absurd hk1 (hno e1 hm1)
      · exact hz.symm
    · have hz := hlook.1.symm.trans hr
      simp only [Bool.false_eq_true, if_false, Result.ok.injEq, and_true] at hz
      rcases hwho with ⟨e1, hm1, hk1, rfl⟩ | ⟨hno, _⟩
      · rw [one_key ((MapKept.stamped_iff es clock).1 F.stamped).2.2 hm1 hm0 (hk1.trans h3.symm)]
        exact hz.symm
      · exact absurd h3 (hno e0 hm0)
  have hrow := hlook.2.1
  have hg1 : w.grownBy (setBlock w b (.map es1 clock1)) (some b) := ⟨rfl, rfl, rfl, by simp [setBlock], fun i _ hi => heap_setBlock_other hb _ (fun e => hi (by rw [e]))⟩
  have hsz : (setBlock w b (.map es1 clock1)).heap.size = w.heap.size := by simp [setBlock]
  have hvb : ∀ j, ((V x.key).getD Sl.zero).val.ownBlock = some j → j ≠ b := fun j hj e => by
    have := (hrow.lt j hj).1
    have := h.lt
    omega
  have kp1 : Keeps (fun j => j = b) w (setBlock w b (.map es1 clock1)) := (Keeps.refl _ w).grown hg1 (fun j hj => by cases hj; exact .inl rfl)
  refine ⟨st, _, hrun, hg1, hsz, own_keeps hrow kp1 (fun j hj => hvb j hj), fun w2 v' hg2 hown' hloc => ?_⟩
  have hb1 : (setBlock w b (.map es1 clock1)).heap[b]? = some (.map es1 clock1) := heap_setBlock_same hb _
  have hb2 : w2.heap[b]? = some (.map es1 clock1) := (hg2.block b (by rw [hsz]; exact hblt) (fun e => hvb b e.symm rfl)).trans hb1
  obtain ⟨es', clock', hrun2, hupd⟩ := hst w2 v' hb2
  obtain ⟨p', rfl⟩ : ∃ p' : Sl, v' = p'.val := by
    rcases hown'.2 with ⟨rfl, _⟩ | ⟨g, cap, cur, rfl, _⟩
    · exact ⟨Sl.zero, rfl⟩
    · exact ⟨⟨some g, _, cap⟩, rfl⟩
  obtain ⟨w9, hupd', hown9, _⟩ := h1'.update keyedOw underOM hn (key_of hx) (slR_val p')
  rw [hupd] at hupd'
  obtain rfl : w9 = setBlock w b (.map es' clock') := by simpa using hupd'.symm
  have hg3 : w2.grownBy (setBlock w2 b (.map es' clock')) (some b) := ⟨rfl, rfl, rfl, by simp [setBlock], fun i _ hi => heap_setBlock_other hb2 _ (fun e => hi (by rw [e]))⟩
  have kp3 : Keeps (fun j => j = b) w2 (setBlock w2 b (.map es' clock')) := (Keeps.refl _ w2).grown hg3 (fun j hj => by cases hj; exact .inl rfl)
  have hp'b : ∀ j, p'.val.ownBlock = some j → j ≠ b := fun j hj e => by
    have := (hown'.lt j hj).1
    have := h.lt
    omega
  refine ⟨_, upd V x.key p', hrun2, hg3, ⟨⟨_, ?_, h2.put hx p'⟩, h.lt, fun c => ?_, fun c p hp => ?_, fun c c' p q g hp hq hpg hqg => ?_⟩⟩
  · obtain ⟨es9, c9, hb9, r9⟩ := hown9
    rw [heap_setBlock_same hb] at hb9
    exact ⟨es9, c9, (heap_setBlock_same hb2 _).trans hb9, r9⟩
  · rw [ofKey_app, ofKey_one]
    by_cases e : c = x.key
    · subst e
      rw [upd_same, if_pos rfl]
      simp
    · rw [upd_other _ _ e, if_neg (fun e' => e e'.symm), List.append_nil]
      exact h.dom c
  · rw [ofKey_app, ofKey_one]
    by_cases e : c = x.key
    · subst e
      rw [upd_same] at hp
      injection hp with hp
      subst hp
      rw [if_pos rfl, List.length_append, List.map_append]
      exact own_keeps hown' kp3 (fun j hj => hp'b j hj)
    · rw [upd_other _ _ e] at hp
      rw [if_neg (fun e' => e e'.symm), List.append_nil]
      have r0 := h.row c p hp
      have r1 := own_keeps r0 kp1 (fun j hj e => by have := (r0.lt j hj).1; have := h.lt; omega)
      have kp2 : Keeps (fun j => ((V x.key).getD Sl.zero).val.ownBlock = some j) (setBlock w b (.map es1 clock1)) w2 := (Keeps.refl _ _).grown hg2 (fun j hj => .inl hj)
      have r2 := own_keeps r1 kp2 (fun j hj e' => by
        cases hV : V x.key with
        | none => rw [hV] at e'; cases e'
        | some q =>
          rw [hV] at e'
          exact e (h.dis c x.key p q j hp hV (sl_own hj) (sl_own e')))
      exact own_keeps r2 kp3 (fun j hj e => by have := (r0.lt j hj).1; have := h.lt; omega)
  · have key : ∀ c p g, c ≠ x.key → V c = some p → p.g = some g → p'.g ≠ some g := fun c p g hne hp hpg e' => by
      rcases hloc with hl | hl
      · rw [own_sl e'] at hl
        cases hV : V x.key with
        | none => rw [hV] at hl; cases hl
        | some q =>
          rw [hV] at hl
          exact hne (h.dis c x.key p q g hp hV hpg (sl_own hl.symm))
      · rw [own_sl e'] at hl
        injection hl with hl
        have := (h.ge hp hpg).2
        omega
    by_cases e : c = x.key
    · by_cases e2 : c' = x.key
      · rw [e, e2]
      · rw [e, upd_same] at hp
        injection hp with hp
        subst hp
        rw [upd_other _ _ e2] at hq
        exact absurd hpg (key c' q g e2 hq hqg)
    · rw [upd_other _ _ e] at hp
      by_cases e2 : c' = x.key
      · rw [e2, upd_same] at hq
        injection hq with hq
        subst hq
        exact absurd hqg (key c p g e hp hpg)
      · rw [upd_other _ _ e2] at hq
        exact h.dis c c' p q g hp hq hpg hqg
end Go.Proofs.Ytnblilonjpfdnaa.Jn
