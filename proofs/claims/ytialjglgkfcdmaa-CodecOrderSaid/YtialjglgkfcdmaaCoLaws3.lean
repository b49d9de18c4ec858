/- Package codec: the law of places; a record that came in. -/
import Derived.Test.YtialjglgkfcdmaaCoLaws2
namespace Go.Proofs.Ytialjglgkfcdmaa.Or
open Go.RowKit
/-- A record in its box. -/
structure Rx (B : Nat) (S : Sch) (a : Option Addr) (cap : Nat) (n : Int) (ar : Option Addr) (cr : Nat) (R : List Fd) (al : Option Addr) (cl : Nat) (L : List Fd) (w0 u : World) : Prop where
  c0 : u.cell? ⟨B, 0, none⟩ = some (.string S.name)
  c1 : u.cell? ⟨B, 1, none⟩ = some (.string S.kinds)
  c2 : u.cell? ⟨B, 2, none⟩ = some (.int .i64 S.key)
  c3 : u.cell? ⟨B, 3, none⟩ = some (.slice a S.idx.length cap)
  c4 : u.cell? ⟨B, 4, none⟩ = some (.int .i64 n)
  c5 : u.cell? ⟨B, 5, none⟩ = some (.slice ar R.length cr)
  c6 : u.cell? ⟨B, 6, none⟩ = some (.slice al L.length cl)
  lt : B < u.heap.size
  mat : Mat u a S.idx
  fr : Fds u ar R
  fl : Fds u al L
  below : Below w0.heap.size w0 u
section
variable {B : Nat} {S : Sch} {a : Option Addr} {cap : Nat} {n : Int} {ar : Option Addr} {cr : Nat} {R : List Fd} {al : Option Addr} {cl : Nat} {L : List Fd} {w0 u v : World}
theorem Rx.later (h : Rx B S a cap n ar cr R al cl L w0 u) (hb : Below u.heap.size u v) : Rx B S a cap n ar cr R al cl L w0 v :=
  ⟨by rw [hb.cell (by simpa using h.lt)]; exact h.c0, by rw [hb.cell (by simpa using h.lt)]; exact h.c1, by rw [hb.cell (by simpa using h.lt)]; exact h.c2, by rw [hb.cell (by simpa using h.lt)]; exact h.c3, by rw [hb.cell (by simpa using h.lt)]; exact h.c4, by rw [hb.cell (by simpa using h.lt)]; exact h.c5, by rw [hb.cell (by simpa using h.lt)]; exact h.c6, Nat.lt_of_lt_of_le h.lt hb.size, h.mat.later hb, h.fr.later hb, h.fl.later hb, below_then h.below hb⟩
theorem Rx.drew (h : Rx B S a cap n ar cr R al cl L w0 u) : Rx B S a cap n ar cr R al cl L w0 u.drew := h.later (Below.refl _ _).drew
theorem Rx.pack (h : Rx B S a cap n ar cr R al cl L w0 u) : u.cell? ⟨B, 0, none⟩ = some (.string S.name) ∧ u.cell? ⟨B, 1, none⟩ = some (.string S.kinds) ∧ u.cell? ⟨B, 2, none⟩ = some (.int .i64 S.key) ∧ u.cell? ⟨B, 3, none⟩ = some (.slice a S.idx.length cap) ∧ u.cell? ⟨B, 4, none⟩ = some (.int .i64 n) ∧ u.cell? ⟨B, 5, none⟩ = some (.slice ar R.length cr) ∧ u.cell? ⟨B, 6, none⟩ = some (.slice al L.length cl) ∧ Rx B S a cap n ar cr R al cl L w0 u := ⟨h.c0, h.c1, h.c2, h.c3, h.c4, h.c5, h.c6, h⟩
end
theorem rx_new (w : World) (S : Sch) (a : Option Addr) (cap : Nat) (n : Int) (ar : Option Addr) (cr : Nat) (R : List Fd) (al : Option Addr) (cl : Nat) (L : List Fd) (hM : Mat w a S.idx) (hR : Fds w ar R) (hL : Fds w al L) (t : TypeId) :
    Rx w.heap.size S a cap n ar cr R al cl L w (w.alloc (.cells #[.string S.name, .string S.kinds, .int .i64 S.key, .slice a S.idx.length cap, .int .i64 n, .slice ar R.length cr, .slice al L.length cl] t)) := by
  have hb : Below w.heap.size w (w.alloc (.cells #[.string S.name, .string S.kinds, .int .i64 S.key, .slice a S.idx.length cap, .int .i64 n, .slice ar R.length cr, .slice al L.length cl] t)) := (Below.refl _ _).alloc (Nat.le_refl _) _
  refine ⟨?_, ?_, ?_, ?_, ?_, ?_, ?_, by simp, hM.later hb, hR.later hb, hL.later hb, hb⟩
  all_goals (rw [World.cell?_alloc_at _ _ _ _ rfl]; rfl)
def recV (S : Sch) (a : Option Addr) (cap : Nat) (n : Int) (ar : Option Addr) (cr : Nat) (R : List Fd) (al : Option Addr) (cl : Nat) (L : List Fd) : Value := .agg #[.string S.name, .string S.kinds, .int .i64 S.key, .slice a S.idx.length cap, .int .i64 n, .slice ar R.length cr, .slice al L.length cl]
def greatR (S : Sch) (R L : List Fd) : Bool := !smallSB S || !smallFB R || !smallFB L
theorem not_greatR {S : Sch} {R L : List Fd} (h : greatR S R L = false) : smallSB S = true ∧ smallFB R = true ∧ smallFB L = true := by
  unfold greatR at h
  simpa [and_assoc] using h
set_option maxRecDepth 100000 in
set_option maxHeartbeats 3200000 in
theorem greatr_c (S : Sch) (w : World) (a : Option Addr) (cap : Nat) (n : Int) (ar : Option Addr) (cr : Nat) (R : List Fd) (al : Option Addr) (cl : Nat) (L : List Fd) (hM : Mat w a S.idx) (hR : Fds w ar R) (hL : Fds w al L) (hn : S.name.size ≤ maxLen) (hk : S.kinds.size ≤ maxLen) (hi : S.idx.length ≤ maxLen) (hlr : R.length ≤ maxLen) (hll : L.length ≤ maxLen) (hzr : ∀ f ∈ R, f.s.size ≤ maxLen) (hzl : ∀ f ∈ L, f.s.size ≤ maxLen) :
    Calls Try.prog 21 #[recV S a cap n ar cr R al cl L] w fun e w' => e = .returned (.bool (greatR S R L)) ∧ Below w.heap.size w w' := by
  have KS := Lib.hid (fun w h => small_c S w a cap h hn hk hi)
  have KR := Lib.hid (fun w h => smallF_c w ar cr R h hlr hzr)
  have KL := Lib.hid (fun w h => smallF_c w al cl L h hll hzl)
  have X0 := Lib.hid (rx_new w S a cap n ar cr R al cl L hM hR hL 48)
  unfold Sch.val at KS
  unfold recV
  clear hM hR hL hn hk hi hlr hll hzr hzl
  obtain ⟨y0, y1, y2, y3, y4, y5, y6, -, -, -, -, -⟩ := X0.out
  cases h1 : smallSB S with
  | false =>
    have HR := Lib.hid (show greatR S R L = true by unfold greatR; rw [h1]; rfl)
    rw [h1] at KS
    clear h1
    go_enter Try.func21, Try.ntmps21
    go_wp2_with fail
    refine (KS.out _ X0.out.mat).mono ?_
    rintro e w1 ⟨rfl, b1⟩
    have X1 := Lib.hid (X0.out.later b1)
    clear b1 y0 y1 y2 y3 y4 y5 y6
    obtain ⟨y0, y1, y2, y3, y4, y5, y6, -, -, -, -, -⟩ := X1.out
    go_wp2_with fail
    go_ret
    exact ⟨by rw [HR.out]; rfl, X1.out.below⟩
  | true =>
  rw [h1] at KS
  cases h2 : smallFB R with
  | false =>
    have HR := Lib.hid (show greatR S R L = true by unfold greatR; rw [h1, h2]; rfl)
    rw [h2] at KR
    clear h1 h2
    go_enter Try.func21, Try.ntmps21
    go_wp2_with fail
    refine (KS.out _ X0.out.mat).mono ?_
    rintro e w1 ⟨rfl, b1⟩
    have X1 := Lib.hid (X0.out.later b1)
    clear b1 y0 y1 y2 y3 y4 y5 y6
    obtain ⟨y0, y1, y2, y3, y4, y5, y6, -, -, -, -, -⟩ := X1.out
    go_wp2_with fail
    refine (KR.out _ X1.out.fr).mono ?_
    rintro e w2 ⟨rfl, b2⟩
    have X2 := Lib.hid (X1.out.later b2)
    clear b2 y0 y1 y2 y3 y4 y5 y6
    obtain ⟨y0, y1, y2, y3, y4, y5, y6, -, -, -, -, -⟩ := X2.out
    go_wp2_with fail
    go_ret
    exact ⟨by rw [HR.out]; rfl, X2.out.below⟩
  | true =>
  rw [h2] at KR
  cases h3 : smallFB L with
  | false =>
    have HR := Lib.hid (show greatR S R L = true by unfold greatR; rw [h1, h2, h3]; rfl)
    rw [h3] at KL
    clear h1 h2 h3
    go_enter Try.func21, Try.ntmps21
    go_wp2_with fail
    refine (KS.out _ X0.out.mat).mono ?_
    rintro e w1 ⟨rfl, b1⟩
    have X1 := Lib.hid (X0.out.later b1)
    clear b1 y0 y1 y2 y3 y4 y5 y6
    obtain ⟨y0, y1, y2, y3, y4, y5, y6, -, -, -, -, -⟩ := X1.out
    go_wp2_with fail
    refine (KR.out _ X1.out.fr).mono ?_
    rintro e w2 ⟨rfl, b2⟩
    have X2 := Lib.hid (X1.out.later b2)
    clear b2 y0 y1 y2 y3 y4 y5 y6
    obtain ⟨y0, y1, y2, y3, y4, y5, y6, -, -, -, -, -⟩ := X2.out
    go_wp2_with fail
    refine (KL.out _ X2.out.fl).mono ?_
    rintro e w3 ⟨rfl, b3⟩
    have X3 := Lib.hid (X2.out.later b3)
    clear b3 y0 y1 y2 y3 y4 y5 y6
    obtain ⟨y0, y1, y2, y3, y4, y5, y6, -, -, -, -, -⟩ := X3.out
    go_wp2_with fail
    go_ret
    exact ⟨by rw [HR.out]; rfl, X3.out.below⟩
  | true =>
    have HR := Lib.hid (show greatR S R L = false by unfold greatR; rw [h1, h2, h3]; rfl)
    rw [h3] at KL
    clear h1 h2 h3
    go_enter Try.func21, Try.ntmps21
    go_wp2_with fail
    refine (KS.out _ X0.out.mat).mono ?_
    rintro e w1 ⟨rfl, b1⟩
    have X1 := Lib.hid (X0.out.later b1)
    clear b1 y0 y1 y2 y3 y4 y5 y6
    obtain ⟨y0, y1, y2, y3, y4, y5, y6, -, -, -, -, -⟩ := X1.out
    go_wp2_with fail
    refine (KR.out _ X1.out.fr).mono ?_
    rintro e w2 ⟨rfl, b2⟩
    have X2 := Lib.hid (X1.out.later b2)
    clear b2 y0 y1 y2 y3 y4 y5 y6
    obtain ⟨y0, y1, y2, y3, y4, y5, y6, -, -, -, -, -⟩ := X2.out
    go_wp2_with fail
    refine (KL.out _ X2.out.fl).mono ?_
    rintro e w3 ⟨rfl, b3⟩
    have X3 := Lib.hid (X2.out.later b3)
    clear b3 y0 y1 y2 y3 y4 y5 y6
    obtain ⟨y0, y1, y2, y3, y4, y5, y6, -, -, -, -, -⟩ := X3.out
    go_wp2_with fail
    go_ret
    exact ⟨by rw [HR.out]; rfl, X3.out.below⟩
set_option maxRecDepth 100000 in
set_option maxHeartbeats 6400000 in
theorem places_law (S : Sch) (w : World) (a : Option Addr) (cap : Nat) (n : Int) (ar : Option Addr) (cr : Nat) (R : List Fd) (al : Option Addr) (cl : Nat) (L : List Fd) (hM : Mat w a S.idx) (hR : FdsC w cr ar R) (hL : FdsC w cl al L) (hn : S.name.size ≤ maxLen) (hk : S.kinds.size ≤ maxLen) (hi : S.idx.length ≤ maxLen) (hlr : R.length ≤ maxLen) (hll : L.length ≤ maxLen) (hzr : ∀ f ∈ R, Fd.Fits f) (hzl : ∀ f ∈ L, Fd.Fits f) :
    Calls Try.prog 7 #[recV S a cap n ar cr R al cl L] w fun e w' => e = .returned (.bool true) ∧ Below w.heap.size w w' := by
  have KH := Lib.hid codhead_c
  have KG := Lib.hid (fun w h1 h2 h3 => greatr_c S w a cap n ar cr R al cl L h1 h2 h3 hn hk hi hlr hll (fun f hf => (hzr f hf).2) (fun f hf => (hzl f hf).2))
  have X0 := Lib.hid (rx_new w S a cap n ar cr R al cl L hM hR.1 hL.1 48)
  have hcr := hR.2
  unfold recV at KG
  unfold recV
  clear hM hR hL hn hk hi hlr hll
  obtain ⟨y0, y1, y2, y3, y4, y5, y6, -, -, -, -, -⟩ := X0.out
  cases hg : greatR S R L with
  | true =>
    rw [hg] at KG
    clear hg hzr hzl hcr
    go_enter Try.func7, Try.ntmps7
    go_wp2_with fail
    refine (KG.out _ X0.out.mat X0.out.fr X0.out.fl).mono ?_
    rintro e w1 ⟨rfl, b1⟩
    have X1 := Lib.hid (X0.out.later b1)
    clear b1 y0 y1 y2 y3 y4 y5 y6
    obtain ⟨y0, y1, y2, y3, y4, y5, y6, -, -, -, -, -⟩ := X1.out
    go_wp2_with fail
    refine (KH.out _).mono ?_
    rintro e w2 ⟨rfl, b2⟩
    have X2 := Lib.hid (X1.out.later b2)
    clear b2 y0 y1 y2 y3 y4 y5 y6
    obtain ⟨y0, y1, y2, y3, y4, y5, y6, -, -, -, -, -⟩ := X2.out
    go_wp2_with fail
    go_ret
    exact ⟨rfl, X2.out.below⟩
  | false =>
  rw [hg] at KG
  obtain ⟨g1, g2, g3⟩ := not_greatR hg
  have hS := smallS_of g1
  obtain ⟨hfr, hr40⟩ := fine_of g2 hzr
  obtain ⟨hfl, hl40⟩ := fine_of g3 hzl
  have K1 := Lib.hid (fun w h h2 => place_c S n w a cap ar cr R h h2 hcr hfr hr40 hS)
  have K2 := Lib.hid (fun w h h2 => rplace_c S n w a cap ar cr R h h2 hfr hr40 hS)
  have K3 := Lib.hid (fun w h h2 => begin_c S n w a cap al cl L h h2 hfl hl40 hS)
  have K4 := Lib.hid (fun w h h2 => rbegin_c S n w a cap al cl L h h2 hfl hl40 hS)
  have K5 := Lib.hid (fun w h h2 => whole_c S w a cap ar cr R h h2 hcr hfr hr40 hS)
  have K6 := Lib.hid (fun w h h2 => rwhole_c S w a cap ar cr R h h2 hfr hr40 hS)
  unfold PlaceRes at K1 K2
  unfold BeginRes at K3 K4
  generalize placeF S n R = p1 at K1 K2
  generalize beginF S n L = p2 at K3 K4
  generalize wholeF S R = q at K5 K6
  obtain ⟨X, z⟩ := p1
  obtain ⟨Y, y⟩ := p2
  obtain ⟨F, hF⟩ : ∃ F : ByteArray, (⟨X.toArray⟩ : ByteArray) = F := ⟨_, rfl⟩
  obtain ⟨G, hG⟩ : ∃ F : ByteArray, (⟨Y.toArray⟩ : ByteArray) = F := ⟨_, rfl⟩
  simp only [hF] at K1 K2
  simp only [hG] at K3 K4
  have zf : (F.toList == F.toList) = true := by simp
  have zg : (G.toList == G.toList) = true := by simp
  have zz : (z == z) = true := by simp
  have zy : (y == y) = true := by simp
  have zq : (q == q) = true := by simp
  unfold Sch.val at K1 K2 K3 K4 K5 K6
  clear hg g1 g2 g3 hS hfr hr40 hfl hl40 hzr hzl hcr hF hG
  go_enter Try.func7, Try.ntmps7
  go_wp2_with fail
  refine (KG.out _ X0.out.mat X0.out.fr X0.out.fl).mono ?_
  rintro e w1 ⟨rfl, b1⟩
  have X1 := Lib.hid (X0.out.later b1)
  clear b1 y0 y1 y2 y3 y4 y5 y6
  obtain ⟨y0, y1, y2, y3, y4, y5, y6, -, -, -, -, -⟩ := X1.out
  go_wp2_with fail
  refine (K1.out _ X1.out.mat X1.out.fr).mono ?_
  rintro e w2 ⟨rfl, b2⟩
  have X2 := Lib.hid (X1.out.later b2)
  clear b2 y0 y1 y2 y3 y4 y5 y6
  obtain ⟨y0, y1, y2, y3, y4, y5, y6, -, -, -, -, -⟩ := X2.out
  go_wp2_with fail
  refine (K2.out _ X2.out.mat X2.out.fr).mono ?_
  rintro e w3 ⟨rfl, b3⟩
  have X3 := Lib.hid (X2.out.later b3)
  clear b3 y0 y1 y2 y3 y4 y5 y6
  obtain ⟨y0, y1, y2, y3, y4, y5, y6, -, -, -, -, -⟩ := X3.out
  go_wp2_with fail
  refine (K3.out _ X3.out.mat X3.out.fl).mono ?_
  rintro e w4 ⟨rfl, b4⟩
  have X4 := Lib.hid (X3.out.later b4)
  clear b4 y0 y1 y2 y3 y4 y5 y6
  obtain ⟨y0, y1, y2, y3, y4, y5, y6, -, -, -, -, -⟩ := X4.out
  go_wp2_with fail
  refine (K4.out _ X4.out.mat X4.out.fl).mono ?_
  rintro e w5 ⟨rfl, b5⟩
  have X5 := Lib.hid (X4.out.later b5)
  clear b5 y0 y1 y2 y3 y4 y5 y6
  go_wp2_with fail
  go_region_held3 (fun u => u.cell? ⟨w.heap.size, 0, none⟩ = some (.string S.name) ∧ u.cell? ⟨w.heap.size, 1, none⟩ = some (.string S.kinds) ∧ u.cell? ⟨w.heap.size, 2, none⟩ = some (.int .i64 S.key) ∧ u.cell? ⟨w.heap.size, 3, none⟩ = some (.slice a S.idx.length cap) ∧ u.cell? ⟨w.heap.size, 4, none⟩ = some (.int .i64 n) ∧ u.cell? ⟨w.heap.size, 5, none⟩ = some (.slice ar R.length cr) ∧ u.cell? ⟨w.heap.size, 6, none⟩ = some (.slice al L.length cl) ∧ Rx w.heap.size S a cap n ar cr R al cl L w u)
    (first | exact Rx.pack X5.out | exact Rx.pack X5.out.drew | exact Rx.pack J1)
    (first | (go_at_call 26; (try go_split_ands); refine (K5.out _ (Rx.mat (by assumption)) (Rx.fr (by assumption))).mono ?_; rintro e u1 ⟨rfl, b1⟩; have J1 := Rx.later (by assumption) b1) | (go_at_call 27; (try go_split_ands); refine (K6.out _ (Rx.mat (by assumption)) (Rx.fr (by assumption))).mono ?_; rintro e u1 ⟨rfl, b1⟩; have J1 := Rx.later (by assumption) b1) | (go_at_call 10; (try go_split_ands); refine (KH.out _).mono ?_; rintro e u1 ⟨rfl, b1⟩; have J1 := Rx.later (by assumption) b1))
  go_split_ands
  go_wp2_with fail
  go_ret
  exact ⟨rfl, Rx.below (by assumption)⟩
section
variable {H : Type} {enc : TypeId × Value → H} {P : Program} {w : World} {base : Nat} {held : Bool}
open Go.ChangeShapes Go.WideShapes Go.ChangeAt Go.Joins Go.WideMaps Go.WideElems Go.Deep
theorem array7 {α : Type} {cs : Array α} (h : cs.size = 7) : ∃ c0 c1 c2 c3 c4 c5 c6, cs = #[c0, c1, c2, c3, c4, c5, c6] := by
  obtain ⟨l⟩ := cs
  match l, h with
  | [c0, c1, c2, c3, c4, c5, c6], _ => exact ⟨c0, c1, c2, c3, c4, c5, c6, rfl⟩
theorem trod_struct4' {t : TypeId} {f0 f1 f2 f3 : Field} {fuel : Nat} {cs : List Value} {x : DataW H × List MemPlace} (ht : P.underlying t = some (.struct #[f0, f1, f2, f3])) (h : DataW.trod enc P w base (fun _ => true) held fuel t cs = some x) :
    ∃ y0 y1 y2 y3 m, DataW.trod enc P w base (fun _ => true) held m f0.type ((cs.drop f0.offset).take (P.cellsOf f0.type)) = some y0 ∧ DataW.trod enc P w base (fun _ => true) held m f1.type ((cs.drop f1.offset).take (P.cellsOf f1.type)) = some y1 ∧ DataW.trod enc P w base (fun _ => true) held m f2.type ((cs.drop f2.offset).take (P.cellsOf f2.type)) = some y2 ∧ DataW.trod enc P w base (fun _ => true) held m f3.type ((cs.drop f3.offset).take (P.cellsOf f3.type)) = some y3 := by
  obtain ⟨xs, m, _, _, _, hlen, hf⟩ := DataW.trod_struct ht h
  match xs, hlen with
  | [y0, y1, y2, y3], _ => exact ⟨y0, y1, y2, y3, m, by simpa using hf 0 f0 rfl, by simpa using hf 1 f1 rfl, by simpa using hf 2 f2 rfl, by simpa using hf 3 f3 rfl⟩
theorem open_rec {r : Reach} {b0 : Nat} {t : TypeId} {f0 f1 f2 f3 g0 g1 g2 g3 h0 h1 h2 : Field} {tr tm te : TypeId} {v : Value} {d : DataW H} {p : List MemPlace}
    (hs : P.underlying t = some (.struct #[f0, f1, f2, f3])) (hs0 : P.underlying f0.type = some (.struct #[g0, g1, g2, g3])) (hC : P.cellsOf t = 7)
    (o0 : f0.offset = 0) (k0 : P.cellsOf f0.type = 4) (o1 : f1.offset = 4) (k1 : P.cellsOf f1.type = 1) (o2 : f2.offset = 5) (k2 : P.cellsOf f2.type = 1) (o3 : f3.offset = 6) (k3 : P.cellsOf f3.type = 1)
    (p0 : g0.offset = 0) (q0 : P.cellsOf g0.type = 1) (p1 : g1.offset = 1) (q1 : P.cellsOf g1.type = 1) (p2 : g2.offset = 2) (q2 : P.cellsOf g2.type = 1) (p3 : g3.offset = 3) (q3 : P.cellsOf g3.type = 1)
    (u0 : P.underlying g0.type = some .string) (u1 : P.underlying g1.type = some .string) (u2 : P.underlying g2.type = some (.int .i64)) (u3 : P.underlying g3.type = some (.slice tm)) (um : P.underlying tm = some (.slice te)) (ue : P.underlying te = some (.int .i64)) (ke : P.cellsOf tm = 1) (ke2 : P.cellsOf te = 1)
    (u4 : P.underlying f1.type = some (.int .i64)) (u5 : P.underlying f2.type = some (.slice tr)) (u6 : P.underlying f3.type = some (.slice tr)) (ur : P.underlying tr = some (.struct #[h0, h1, h2])) (hone : oneCellFields P #[h0, h1, h2] = true) (kr : P.cellsOf tr = 3)
    (ur0 : P.underlying h0.type = some (.int .u64)) (ur1 : P.underlying h1.type = some (.int .i64)) (ur2 : P.underlying h2.type = some .string)
    (hv : Value.okWide P w r b0 t v) (h : DataW.Trod enc P w base (fun _ => true) held t v d p) :
    ∃ (S : Sch) (a : Option Addr) (cap : Nat) (n : Int) (ar : Option Addr) (cr : Nat) (R : List Fd) (al : Option Addr) (cl : Nat) (L : List Fd), v = recV S a cap n ar cr R al cl L ∧ Mat w a S.idx ∧ FdsC w cr ar R ∧ FdsC w cl al L ∧ S.name.size ≤ maxLen ∧ S.kinds.size ≤ maxLen ∧ S.idx.length ≤ maxLen ∧ R.length ≤ maxLen ∧ L.length ≤ maxLen ∧ (∀ f ∈ R, Fd.Fits f) ∧ (∀ f ∈ L, Fd.Fits f) := by
  obtain ⟨cs, rfl, hsz⟩ := okWide_struct hs hv
  obtain ⟨c0, c1, c2, c3, c4, c5, c6, rfl⟩ := array7 (hsz.trans hC)
  obtain ⟨fuel, hf⟩ := h
  obtain ⟨y0, y1, y2, y3, m, a0, a1, a2, a3⟩ := trod_struct4' hs hf
  simp only [Value.cells, o0, k0, o1, k1, o2, k2, o3, k3] at a0 a1 a2 a3
  obtain ⟨z0, z1, z2, z3, m2, b0', b1, b2, b3⟩ := trod_struct4' hs0 a0
  simp [p0, q0, p1, q1, p2, q2, p3, q3] at b0' b1 b2 b3
  simp at a1 a2 a3
  obtain ⟨x0, e0, _, w0⟩ := DataW.trod_string u0 b0'
  obtain ⟨x1, e1, _, w1⟩ := DataW.trod_string u1 b1
  obtain ⟨x2, e2, _, w2⟩ := DataW.trod_int u2 b2
  obtain ⟨am, cm, Lm, e3, stm, lm, zm⟩ := open_mat u3 um ue ke ke2 b3
  obtain ⟨x4, e4, _, w4⟩ := DataW.trod_int u4 a1
  obtain ⟨ar, cr, Lr, e5, str, lr, zr⟩ := open_fds u5 ur hone kr ur0 ur1 ur2 a2
  obtain ⟨al, cl, Ll, e6, stl, ll, zl⟩ := open_fds u6 ur hone kr ur0 ur1 ur2 a3
  simp at e0 e1 e2 e4
  subst e0 e1 e2 e3 e4 e5 e6
  exact ⟨⟨x0, x1, x2, Lm⟩, am, cm, x4, ar, cr, Lr, al, cl, Ll, rfl, stm, str, stl, by simpa using w0, by simpa using w1, lm, lr, ll, zr, zl⟩
end
end Go.Proofs.Ytialjglgkfcdmaa.Or
