/- Package invoices: acts. (gen_inwhole.py writes this.) -/
import Derived.Test.YtaidijbjpogpeaaDoorInTell
import Derived.Test.YtaidijbjpogpeaaDoorInOlder0
import Derived.Lib.SmallJoins
import Derived.OpenShut
import Derived.Deep.Slices
import Derived.Deep.Fields
import Derived.ChangeSame
namespace Go.Proofs.YtaidijbjpogpeaaDoor.Inv
open Go.RowKit Go.ChangeShapes Go.WideShapes Go.ChangeAt Go.Joins Go.WideMaps Go.WideElems Go.Deep
/-- An act: what, and how much. -/
structure Ac where
  what : Int
  n : Int
structure Ac.Fits (x : Ac) : Prop where
  what : 0 ≤ x.what ∧ x.what ≤ 255
  n : I64 x.n
instance : Inhabited Ac := ⟨⟨0, 0⟩⟩
def Acs (w : World) (a : Option Addr) (L : List Ac) : Prop :=
  ∀ j (h : j < L.length), ∃ b off, a = some ⟨b, off, none⟩ ∧ b < w.heap.size ∧ w.cell? ⟨b, off + j * 2, none⟩ = some (.int .u8 L[j].what) ∧ w.cell? ⟨b, off + j * 2 + 1, none⟩ = some (.int .i64 L[j].n)
theorem Acs.later {w w' : World} {a : Option Addr} {L : List Ac} (h : Acs w a L) (hb : Below w.heap.size w w') : Acs w' a L := by
  intro j hj
  obtain ⟨b, off, ha, hlt, c0, c1⟩ := h j hj
  exact ⟨b, off, ha, Nat.lt_of_lt_of_le hlt hb.size, by rw [hb.cell (by simpa using hlt)]; exact c0, by rw [hb.cell (by simpa using hlt)]; exact c1⟩
section
variable {H : Type} {enc : TypeId × Value → H} {P : Program} {w : World} {base : Nat} {spare : Nat → Bool} {held : Bool}
theorem open_acs {t e : TypeId} {f0 f1 : Field} {fuel : Nat} {v : Value} {y : DataW H × List MemPlace} (ht : P.underlying t = some (.slice e)) (he : P.underlying e = some (.struct #[f0, f1]))
    (hone : oneCellFields P #[f0, f1] = true) (hC : P.cellsOf e = 2) (u0 : P.underlying f0.type = some (.int .u8)) (u1 : P.underlying f1.type = some (.int .i64))
    (h : DataW.trod enc P w base spare held fuel t [v] = some y) :
    ∃ a cap L, v = .slice a (List.length L) cap ∧ Acs w a L ∧ L.length ≤ maxLen ∧ ∀ x ∈ L, Ac.Fits x := by
  rcases open_slice ht h with ⟨hcs, _⟩ | ⟨a, len, cap, m, n, D, Pl, hcs, _, hl, hm, hmm, _, hx⟩
  · simp at hcs
    exact ⟨none, 0, [], hcs, fun j hj => by simp at hj, by simp, by simp⟩
  · simp at hcs
    have hlm : len ≤ m := by rw [hmm]; split <;> omega
    rw [hC] at hx
    have hall : ∀ i, i < len → ∃ x : Ac, (w.cell? ((a.add (i * 2))) = some (.int .u8 x.what) ∧ w.cell? ((a.add (i * 2)).add 1) = some (.int .i64 x.n)) ∧ Ac.Fits x := by
      intro i hi
      obtain ⟨cs', h1, h2⟩ := hx i (by omega)
      obtain ⟨_, hlen, hat⟩ := World.cells?_some h1
      obtain ⟨xs, k, _, _, _, hxl, hf⟩ := DataW.trod_struct he h2
      obtain ⟨o0, k0⟩ := hone_of hone 0 f0 rfl
      obtain ⟨o1, k1⟩ := hone_of hone 1 f1 rfl
      match cs', hlen, xs, hxl with
      | [c0, c1], _, [y0, y1], _ =>
        have g0 : DataW.trod enc P w base spare held k f0.type [c0] = some y0 := by simpa [o0, k0] using hf 0 f0 rfl
        obtain ⟨x0, e0, _, wx0⟩ := DataW.trod_int u0 g0
        have g1 : DataW.trod enc P w base spare held k f1.type [c1] = some y1 := by simpa [o1, k1] using hf 1 f1 rfl
        obtain ⟨x1, e1, _, wx1⟩ := DataW.trod_int u1 g1
        simp at e0 e1
        subst e0 e1
        have a0 := hat 0 (by omega)
        have a1 := hat 1 (by omega)
        have hml : maxLen = 9223372036854775807 := rfl
        refine ⟨⟨x0, x1⟩, ⟨?_, ?_⟩, ⟨bounds_u8 wx0, bounds_i64 wx1⟩⟩
        · simpa [Addr.add] using a0
        · simpa using a1
    obtain ⟨V, hV⟩ := choose_lt (α := Ac) (p := fun i x => (w.cell? ((a.add (i * 2))) = some (.int .u8 x.what) ∧ w.cell? ((a.add (i * 2)).add 1) = some (.int .i64 x.n)) ∧ Ac.Fits x) hall
    refine ⟨some a, cap, (List.range len).map V, by simpa using hcs, ?_, by simp; omega, ?_⟩
    · intro j hj
      have hj' : j < len := by simpa using hj
      obtain ⟨⟨c0, c1⟩, _⟩ := hV j hj'
      have c00 := (hV 0 (by omega)).1.1
      obtain ⟨ab, ao, spot⟩ := a
      have hspot : spot = none := by simpa [Addr.add] using World.cell?_spot c00
      subst hspot
      rw [Go.WideShapes.add_plain] at c0 c1
      rw [Go.WideShapes.add_plain] at c1
      refine ⟨ab, ao, rfl, World.block_lt_of_cell? w ⟨ab, ao + j * 2, none⟩ c0, ?_, ?_⟩
      · rw [c0]; simp
      · rw [c1]; simp
    · intro x hx
      obtain ⟨i, hi, rfl⟩ := List.mem_map.1 hx
      exact (hV i (List.mem_range.1 hi)).2
end
/-- What an act answers. -/
def Iv.step (y : Iv) (c n : Int) : Iv × Int × Int :=
  if c = 0 then y.creditR n else if c = 1 then ((y.payR n).1, 0, (y.payR n).2) else if c = 2 then ((y.unpayR n).1, 0, (y.unpayR n).2) else y.loseR
structure StepOk (y : Iv) (c n : Int) (y' : Iv) (o z : Int) : Prop where
  no : z ≠ 0 → y' = Iv.zero ∧ o = 0
  ok : z = 0 → y'.Ok
  fits : z = 0 → y'.Fits
  same : z = 0 → y'.id = y.id ∧ y'.cust = y.cust ∧ y'.con = y.con ∧ y'.day = y.day ∧ y'.due = y.due ∧ y'.frm = y.frm ∧ y'.next = y.next ∧ y'.amt = y.amt
  sum : z = 0 → y'.left + y'.cred + y'.paid + y'.lost = y.amt
  over : z = 0 → 0 ≤ o
  cred : z = 0 → c = 0 → y.paid - y'.paid = o ∧ y'.cred - y.cred = n ∧ (0 < o → y'.left = 0)
theorem ok_of (x : Iv) (h1 : 0 < x.id) (h2 : 0 < x.cust) (h3 : 1 ≤ x.day ∧ x.day ≤ 3652059) (h4 : 1 ≤ x.due ∧ x.due ≤ 3652059) (h5 : x.day ≤ x.due) (h6 : 1 ≤ x.frm ∧ x.frm ≤ 3652059) (h7 : x.frm < x.next) (h8 : x.next ≤ 3652060)
    (h9 : 0 ≤ x.amt ∧ x.amt < 4611686018427387904) (c : 0 ≤ x.cred) (p : 0 ≤ x.paid) (l : 0 ≤ x.lost) (h : x.cred + x.paid + x.lost ≤ x.amt) : x.Ok := by
  have e1 : off x.amt x.cred = x.amt - x.cred := if_pos h9.1
  have e2 : off (x.amt - x.cred) x.paid = x.amt - x.cred - x.paid := if_pos (by omega)
  have e3 : off (x.amt - x.cred - x.paid) x.lost = x.amt - x.cred - x.paid - x.lost := if_pos (by omega)
  have e : x.left = x.amt - x.cred - x.paid - x.lost := by unfold Iv.left; rw [e1, e2, e3]
  exact ⟨h1, h2, h3, h4, h5, h6, h7, h8, h9, c, p, l, by rw [e]; omega, e⟩
theorem fits_of (x y : Iv) (h : x.Ok) (hy : y.Fits) (e : x.id = y.id ∧ x.cust = y.cust ∧ x.con = y.con) : x.Fits := by
  have a := h.day; have b := h.due; have c := h.frm; have d := h.next; have f := h.fn; have g := h.amt; have i := h.cred; have j := h.paid; have k := h.lost; have l := h.left; have m := h.left0
  obtain ⟨e1, e2, e3⟩ := e
  exact ⟨by rw [e1]; exact hy.id, by rw [e2]; exact hy.cust, by rw [e3]; exact hy.con, by unfold I64; omega, by unfold I64; omega, by unfold I64; omega, by unfold I64; omega, by unfold I64; omega, by unfold I64; omega, by unfold I64; omega, by unfold I64; omega⟩
theorem step_no (y : Iv) (c n e : Int) (he : e ≠ 0) : StepOk y c n Iv.zero 0 e :=
  ⟨fun _ => ⟨rfl, rfl⟩, fun h => absurd h he, fun h => absurd h he, fun h => absurd h he, fun h => absurd h he, fun h => absurd h he, fun h => absurd h he⟩
theorem step_yes (y y' : Iv) (c n o : Int) (hk : y.Ok) (hf : y.Fits) (he : y'.id = y.id ∧ y'.cust = y.cust ∧ y'.con = y.con ∧ y'.day = y.day ∧ y'.due = y.due ∧ y'.frm = y.frm ∧ y'.next = y.next ∧ y'.amt = y.amt) (a : 0 ≤ y'.cred) (b : 0 ≤ y'.paid) (d : 0 ≤ y'.lost) (s : y'.cred + y'.paid + y'.lost ≤ y.amt) (ho : 0 ≤ o)
    (hc : c = 0 → y.paid - y'.paid = o ∧ y'.cred - y.cred = n ∧ (0 < o → y'.cred + y'.paid + y'.lost = y.amt)) : StepOk y c n y' o 0 := by
  obtain ⟨e1, e2, e3, e4, e5, e6, e7, e8⟩ := id he
  have hok : y'.Ok := ok_of y' (by rw [e1]; exact hk.id) (by rw [e2]; exact hk.cust) (by rw [e4]; exact hk.day) (by rw [e5]; exact hk.due) (by rw [e4, e5]; exact hk.dd) (by rw [e6]; exact hk.frm) (by rw [e6, e7]; exact hk.fn) (by rw [e7]; exact hk.next) (by rw [e8]; exact hk.amt) a b d (by rw [e8]; exact s)
  have hl := hok.left
  refine ⟨fun h => absurd rfl h, fun _ => hok, fun _ => fits_of y' y hok hf ⟨e1, e2, e3⟩, fun _ => he, fun _ => by rw [hl, e8]; omega, fun _ => ho, fun _ h => ?_⟩
  obtain ⟨h1, h2, h3⟩ := hc h
  exact ⟨h1, h2, fun h => by have := h3 h; rw [hl, e8]; omega⟩
theorem step_is (y : Iv) (c n : Int) (hk : y.Ok) (hf : y.Fits) (h0 : 0 ≤ c) (h3 : c ≤ 3) : StepOk y c n (y.step c n).1 (y.step c n).2.1 (y.step c n).2.2 := by
  have kl := hk.left; have kl0 := hk.left0; have kc := hk.cred; have kp := hk.paid; have kt := hk.lost; have ka := hk.amt
  have hok := (okB_iff y).2 hk
  have : c = 0 ∨ c = 1 ∨ c = 2 ∨ c = 3 := by omega
  rcases this with rfl | rfl | rfl | rfl
  · show StepOk y 0 n (y.creditR n).1 (y.creditR n).2.1 (y.creditR n).2.2
    unfold Iv.creditR
    split
    · exact step_no y 0 n 2 (by decide)
    · rename_i h1
      split
      · exact step_no y 0 n 9 (by decide)
      · rename_i h2
        have hn : 1 ≤ n := by omega
        refine step_yes y (y.credit n) 0 n (y.over n) hk hf ⟨rfl, rfl, rfl, rfl, rfl, rfl, rfl, rfl⟩ ?_ ?_ ?_ ?_ ?_ ?_ <;> simp only [Iv.credit, Iv.over] <;> (try split) <;> (try intro _) <;> omega
  · show StepOk y 1 n (y.payR n).1 0 (y.payR n).2
    unfold Iv.payR
    split
    · exact step_no y 1 n 2 (by decide)
    · split
      · exact step_no y 1 n 9 (by decide)
      · refine step_yes y (y.pay n) 1 n 0 hk hf ⟨rfl, rfl, rfl, rfl, rfl, rfl, rfl, rfl⟩ ?_ ?_ ?_ ?_ (by omega) (by omega) <;> simp only [Iv.pay] <;> omega
  · show StepOk y 2 n (y.unpayR n).1 0 (y.unpayR n).2
    unfold Iv.unpayR
    split
    · exact step_no y 2 n 2 (by decide)
    · split
      · exact step_no y 2 n 9 (by decide)
      · refine step_yes y (y.unpay n) 2 n 0 hk hf ⟨rfl, rfl, rfl, rfl, rfl, rfl, rfl, rfl⟩ ?_ ?_ ?_ ?_ (by omega) (by omega) <;> simp only [Iv.unpay] <;> omega
  · show StepOk y 3 n (y.loseR).1 (y.loseR).2.1 (y.loseR).2.2
    unfold Iv.loseR
    split
    · exact step_no y 3 n 2 (by decide)
    · split
      · exact step_no y 3 n 9 (by decide)
      · refine step_yes y y.lose 3 n y.left hk hf ⟨rfl, rfl, rfl, rfl, rfl, rfl, rfl, rfl⟩ ?_ ?_ ?_ ?_ (by omega) (by omega) <;> simp only [Iv.lose] <;> omega
end Go.Proofs.YtaidijbjpogpeaaDoor.Inv
