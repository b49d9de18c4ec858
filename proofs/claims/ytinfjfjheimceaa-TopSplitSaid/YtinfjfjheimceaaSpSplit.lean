/- Package split: Split. -/
import Derived.Test.YtinfjfjheimceaaSpWalk
import Derived.Test.YtinfjfjheimceaaRfColl
import Derived.Test.YtinfjfjheimceaaCmRow
import Derived.OwnWalk
import Derived.Deep.RegionWith
namespace Go.Proofs.Ytinfjfjheimceaa.Sp
open Go Go.RowKit Go.Lib Go.Proofs.Ytinfjfjheimceaa.So Rf Cm
open Go.Sort (HoldsK Holds flatK get_flatK size_flatK)
/-- The shares' cells, one behind the other. -/
def cells3 (T A : Int) (l : List Int) (k : Nat) : List Value := (flatK enc 3 (shs T A l k)).toList
theorem cells3_len (T A : Int) (l : List Int) (k : Nat) : (cells3 T A l k).length = k * 3 := by unfold cells3; simp [shs_size]
theorem cells3_flat (T A : Int) (l : List Int) (k t : Nat) (h : t < (cells3 T A l k).length) : (cells3 T A l k)[t] = (flatK enc 3 (shs T A l k))[t]! := by
  have h' : t < (flatK enc 3 (shs T A l k)).size := by rw [cells3_len] at h; simp [shs_size]; exact h
  rw [getElem!_pos (flatK enc 3 (shs T A l k)) t h']; simp [cells3]
theorem cells3_zero (T A : Int) (l : List Int) : cells3 T A l 0 = [] := List.length_eq_zero_iff.1 (by rw [cells3_len])
theorem cells3_at (T A : Int) (l : List Int) (k t : Nat) (h : t < k * 3) : (cells3 T A l k)[t]'(by rw [cells3_len]; exact h) = (enc (sh T A l (t / 3)))[t % 3]! := by
  have h1 := get_flatK enc 3 (shs T A l k) t (by rw [shs_size]; exact h)
  rw [shs_get _ _ _ _ _ (by omega)] at h1
  rw [← h1, cells3_flat]
theorem cells3_snoc (T A : Int) (l : List Int) (k : Nat) : cells3 T A l (k + 1) = cells3 T A l k ++ [.int .i64 (k : Int), .int .i64 (T * l.getD k 0 / A), .int .i64 (T * l.getD k 0 % A)] := by
  refine List.ext_getElem (by simp [cells3_len]; omega) fun t h1 h2 => ?_
  have h1' : t < (k + 1) * 3 := by rw [cells3_len] at h1; exact h1
  rw [cells3_at _ _ _ _ _ h1']
  by_cases hk : t < k * 3
  · rw [List.getElem_append_left (by rw [cells3_len]; exact hk), cells3_at _ _ _ _ _ hk]
  · rw [List.getElem_append_right (by rw [cells3_len]; omega)]
    simp only [cells3_len]
    have e1 : t / 3 = k := by omega
    rw [e1]
    have : t - k * 3 = 0 ∨ t - k * 3 = 1 ∨ t - k * 3 = 2 := by omega
    rcases this with e | e | e
    · have e2 : t % 3 = 0 := by omega
      simp [e, e2, enc, sh]
    · have e2 : t % 3 = 1 := by omega
      simp [e, e2, enc, sh]
    · have e2 : t % 3 = 2 := by omega
      simp [e, e2, enc, sh]
theorem holds_own {w : World} {base e n g cap : Nat} {T A : Int} {l : List Int} (h : w.ownsRow base e 3 (.slice (some ⟨g, 0, none⟩) n cap) n (cells3 T A l n)) : HoldsK enc 3 w g 0 (shs T A l n) := by
  have hc := (own_cell h).2
  intro j hj
  have hj' : j < n * 3 := by simpa [shs_size] using hj
  have hl : j < (cells3 T A l n).length := by rw [cells3_len]; exact hj'
  refine ⟨?_, ?_⟩
  · rw [Nat.zero_add, hc j _ (List.getElem?_eq_getElem hl)]
    rw [cells3_flat]; rfl
  · rcases h.2 with ⟨h0, _⟩ | ⟨g', cap', cur, hv, _, hh, _⟩
    · cases h0
    · obtain ⟨rfl, rfl⟩ : g = g' ∧ cap = cap' := by simpa using hv
      simp [World.frozen?, hh]
theorem three_new (W : World) (a b c : Value) (t : TypeId) : ∀ (j : Nat) (u : Value), [a, b, c][j]? = some u → (W.alloc (.cells #[a, b, c] t)).cell? (Addr.add ⟨W.heap.size, 0, none⟩ j) = some u := by
  intro j u h
  have e : Addr.add ⟨W.heap.size, 0, none⟩ j = ⟨W.heap.size, j, none⟩ := by unfold Addr.add; simp; exact fun h => h.symm
  rw [e]
  rcases j with _|_|_|j
  · simp at h; subst h; simp [go_sem]
  · simp at h; subst h; simp [go_sem]
  · simp at h; subst h; simp [go_sem]
  · simp at h
theorem grown_below {W w1 : World} {n0 e size k : Nat} {v : Value} {xs : List Value} {tmp : Obj} (hrow : W.ownsRow n0 e size v k xs) (hn : n0 ≤ W.heap.size) (hg : (W.alloc tmp).grownBy w1 v.ownBlock) : Below n0 W w1 :=
  ((Below.refl n0 W).alloc hn tmp).grown hg (by simp; omega) fun j ej => by
    rcases hrow.2 with ⟨rfl, _⟩ | ⟨g, cap, cur, rfl, hg, _, _⟩
    · simp [Value.ownBlock] at ej
    · obtain rfl : g = j := by simpa [Value.ownBlock] using ej
      exact hg
theorem infoSh : (Try.prog.info? 44).map (fun i => (i.zero, i.size, i.bytes)) = some (some (.agg #[.int .i64 0, .int .i64 0, .int .i64 0]), 3, 24) := by kernel_rfl
theorem infoI64 : (Try.prog.info? 2).map (fun i => (i.zero, i.size, i.bytes)) = some (some (.int .i64 0), 1, 8) := by kernel_rfl
/-- A unit more, while there is one. -/
theorem unit0_c (B : Nat) (w : World) (hc : w.cell? ⟨B, 0, none⟩ = some (.int .i64 0)) : Calls Try.prog 18 #[.pointer (some ⟨B, 0, none⟩)] w fun e w' => e = .returned (.int .i64 0) ∧ w = w' := by
  go_enter Try.func18, Try.ntmps18
  go_wp2_with fail
  go_ret
  exact ⟨rfl, rfl⟩
theorem unit1_c (B : Nat) (L : Int) (w : World) (hc : w.cell? ⟨B, 0, none⟩ = some (.int .i64 L)) (hf : w.frozen? ⟨B, 0, none⟩ = false) (h1 : 1 ≤ L) (h2 : L ≤ 9223372036854775807) : Calls Try.prog 18 #[.pointer (some ⟨B, 0, none⟩)] w fun e w' => e = .returned (.int .i64 1) ∧ w.setCell ⟨B, 0, none⟩ (.int .i64 (L - 1)) = w' := by
  have h3 : (L == 0) = false := by simp; omega
  go_enter Try.func18, Try.ntmps18
  go_wp2_with fail
  go_ret
  exact ⟨rfl, rfl⟩
/-- The slices of the first p in order. -/
def part (T A : Int) (l : List Int) (p : Nat) : List Value := (List.range l.length).map fun i => .int .i64 (if cnt T A l i < p then slice T A l i else 0)
theorem part_len (T A : Int) (l : List Int) (p : Nat) : (part T A l p).length = l.length := by unfold part; simp
theorem part_at (T A : Int) (l : List Int) (p j : Nat) (h : j < (part T A l p).length) : (part T A l p)[j] = .int .i64 (if cnt T A l j < p then slice T A l j else 0) := by simp [part]
theorem part_set {T A : Int} {l : List Int} {d : Array Sh} (S : Sorted T A l d) {p i : Nat} (hp : p < l.length) (hi : i < l.length) (h : d[p]! = sh T A l i) (v : Int) (hv : v = slice T A l i) : (part T A l p).set i (.int .i64 v) = part T A l (p + 1) := by
  subst hv
  have hc := S.cnt hp h
  refine List.ext_getElem (by simp [part_len]) fun j h1 h2 => ?_
  have hj : j < l.length := by simpa [part_len] using h2
  by_cases e : i = j
  · subst e
    rw [List.getElem_set_self, part_at, if_pos (by omega)]
  · rw [List.getElem_set_ne e, part_at, part_at]
    have hne : cnt T A l j ≠ p := fun hq => by
      rcases bf_total (x := sh T A l i) (y := sh T A l j) e with hb | hb
      · have := cnt_lt hi hb; omega
      · have := cnt_lt hj hb; omega
    by_cases q : cnt T A l j < p
    · rw [if_pos q, if_pos (by omega)]
    · rw [if_neg q, if_neg (by omega)]
theorem cnt_bound {T A : Int} {l : List Int} {i : Nat} (hi : i < l.length) : cnt T A l i < l.length := by
  have h1 : cnt T A l i < cn (fun _ => true) l.length := cn_lt (i := i) (fun _ _ _ => rfl) hi (by unfold ahead; exact decide_eq_false (bf_irrefl _)) rfl
  have := cn_le (fun _ => true) l.length
  omega
/-- The slices, as a row of cells. -/
def outs (T A : Int) (l : List Int) : List Value := (List.range l.length).map fun i => .int .i64 (slice T A l i)
theorem part_all (T A : Int) (l : List Int) : part T A l l.length = outs T A l := by
  unfold part outs
  refine List.map_congr_left fun i hi => ?_
  rw [if_pos (cnt_bound (List.mem_range.1 hi))]
theorem part_zero (T A : Int) (l : List Int) : part T A l 0 = (madeCells #[.int .i64 0] (l.length * 1)).toList := by
  refine List.ext_getElem (by simp [part_len, size_madeCells]) fun j h1 h2 => ?_
  rw [part_at, if_neg (by omega)]
  simp [madeCells, Nat.mod_one]
theorem row_own {w : World} {base e n g cap : Nat} {xs : List Value} (h : w.ownsRow base e 1 (.slice (some ⟨g, 0, none⟩) n cap) n xs) : RowAt w g xs := by
  have hc := own_cell h
  refine ⟨hc.1, fun j hj => hc.2 j _ (List.getElem?_eq_getElem hj), fun j hj => ?_⟩
  rcases h.2 with ⟨h0, _⟩ | ⟨g', cap', cur, hv, _, hh, _⟩
  · cases h0
  · obtain ⟨rfl, rfl⟩ : g = g' ∧ cap = cap' := by simpa using hv
    simp [World.frozen?, hh]
def SRes (T : Int) (l : List Int) (w : World) (e : Ending) (w' : World) : Prop := ∃ g, e = .returned (.tuple #[.slice (some ⟨g, 0, none⟩) l.length l.length, .int .i64 0]) ∧ RowAt w' g (outs T l.sum l) ∧ w.heap.size ≤ g ∧ Below w.heap.size w w' ∧ (∃ d, Sorted T l.sum l d)
set_option maxRecDepth 100000 in
set_option maxHeartbeats 1600000 in
theorem split_no (T : Int) (a : Option Addr) (cap : Nat) (l : List Int) (w : World) (hI : Ints w a l) (hr : ∀ x ∈ l, -9223372036854775808 ≤ x ∧ x ≤ 9223372036854775807) (hlen : l.length ≤ 9223372036854775807) (h : good l = false ∨ T < 0 ∨ 4611686018427387904 ≤ T) :
    Calls Try.prog 9 #[.int .i64 T, .slice a l.length cap] w fun e w' => e = .returned (.tuple #[.slice none 0 0, .int .i64 2]) ∧ Below w.heap.size w w' := by
  have K := Lib.hid (weigh_c a cap l w hI hr hlen)
  clear hI hr
  cases hg : good l with
  | false =>
    have HG := Lib.hid hg
    clear hg h
    go_enter Try.func9, Try.ntmps9
    go_wp2_with fail
    refine K.out.mono ?_
    rintro e w1 ⟨v, rfl, hv, hb⟩
    rw [HG.out]
    clear hv
    go_wp2_with fail
    go_ret2
    exact ⟨rfl, hb⟩
  | true =>
    have HG := Lib.hid hg
    have h2 : T < 0 ∨ 4611686018427387904 ≤ T := by
      rcases h with h | h
      · rw [hg] at h; cases h
      · exact h
    clear hg h
    rcases h2 with h | h
    · go_enter Try.func9, Try.ntmps9
      go_wp2_with fail
      refine K.out.mono ?_
      rintro e w1 ⟨v, rfl, hv, hb⟩
      rw [HG.out]
      clear hv
      go_wp2_with fail
      go_ret2
      exact ⟨rfl, hb⟩
    · have h' : ¬ T < 0 := by omega
      have h3 : decide (T < 0) = false := decide_eq_false h'
      go_enter Try.func9, Try.ntmps9
      go_wp2_with fail
      refine K.out.mono ?_
      rintro e w1 ⟨v, rfl, hv, hb⟩
      rw [HG.out]
      clear hv
      go_wp2_with fail
      go_ret2
      exact ⟨rfl, hb⟩
theorem fine_of {T : Int} {l : List Int} (hg : good l = true) (h0 : 0 ≤ T) (h1 : T < 4611686018427387904) : Fine T l.sum l := by
  obtain ⟨_, g2, g3, g4⟩ := (good_iff l).1 hg
  exact ⟨h0, h1, g3, g4, rfl, fun i hi => g2 _ (by simp [hi])⟩
/-- The first loop's state. -/
structure LS (T A : Int) (l : List Int) (w : World) (B k : Nat) (v : Value) (wr : World) : Prop where
  row : wr.ownsRow (B + 1) 44 3 v k (cells3 T A l k)
  left : wr.cell? ⟨B, 0, none⟩ = some (.int .i64 (T - sm (fun i => T * l.getD i 0 / A) k))
  fr : wr.frozen? ⟨B, 0, none⟩ = false
  lt : B < wr.heap.size
  ge : w.heap.size ≤ B
  below : Below w.heap.size w wr
theorem Fine.part {T A : Int} {l : List Int} (F : Fine T A l) (k : Nat) (hk : k ≤ l.length) : 0 ≤ sm (fun i => T * l.getD i 0 / A) k ∧ sm (fun i => T * l.getD i 0 / A) k ≤ T := by
  have h1 := F.left_bd.1
  unfold Sp.left at h1
  have h2 := sm_mono (f := fun i => T * l.getD i 0 / A) (n := l.length) (m := k) (fun k hk => (F.q k hk).1) hk
  have h3 := sm_nonneg (f := fun i => T * l.getD i 0 / A) (n := k) (fun j hj => (F.q j (by omega)).1)
  omega
/-- What is left behind p in order. -/
def lf (L : Int) (p : Nat) : Int := if L ≤ (p : Int) then 0 else L - p
/-- The last loop's state. -/
structure LT (T A : Int) (l : List Int) (w : World) (B g gs : Nat) (d : Array Sh) (p : Nat) (wr : World) : Prop where
  row : RowAt wr gs (part T A l p)
  holds : HoldsK enc 3 wr g 0 d
  left : wr.cell? ⟨B, 0, none⟩ = some (.int .i64 (lf (Sp.left T A l) p))
  fr : wr.frozen? ⟨B, 0, none⟩ = false
  below : Below w.heap.size w wr
  b1 : w.heap.size ≤ B
  b2 : B < g
  b3 : g < gs
theorem LT.step {T A : Int} {l : List Int} {w : World} {B g gs : Nat} {d : Array Sh} {p i : Nat} {wr w' : World} (h : LT T A l w B g gs d p wr) (S : Sorted T A l d) (hp : p < l.length) (hi : i < l.length) (hd : d[p]! = sh T A l i) (v L : Int) (hv : slice T A l i = v) (hL : lf (Sp.left T A l) p = L) (o : Obj)
    (hw : w' = ((wr.setCell ⟨gs, i, none⟩ (.int .i64 v)).alloc o).drew ∧ L = 0 ∨ w' = (((wr.setCell ⟨B, 0, none⟩ (.int .i64 (L - 1))).setCell ⟨gs, i, none⟩ (.int .i64 v)).alloc o).drew ∧ 1 ≤ L) : LT T A l w B g gs d (p + 1) w' := by
  have hg := h.row.lt
  have hb3 := h.b3
  have hb2 := h.b2
  have hb1 := h.b1
  have hps := part_set S hp hi hd v hv.symm
  have hsz : w.heap.size ≤ wr.heap.size := h.below.size
  have key : ∀ W : World, LT T A l w B g gs d (p + 1) W → LT T A l w B g gs d (p + 1) (W.alloc o).drew := fun W h => by
    have ba : Below W.heap.size W (W.alloc o).drew := ((Below.refl _ W).alloc (Nat.le_refl _) o).drew
    have hlt := h.row.lt
    exact ⟨h.row.later ba, fun j hj => by rw [ba.cell (by simp; omega), ba.frozen (by simp; omega)]; exact h.holds j hj, by rw [ba.cell (by simp; omega)]; exact h.left, by rw [ba.frozen (by simp; omega)]; exact h.fr, h.below.trans (ba.mono h.below.size), hb1, hb2, hb3⟩
  have c1 := h.left
  rw [hL] at c1
  rcases hw with ⟨rfl, hz⟩ | ⟨rfl, hz⟩
  · refine key _ ⟨hps ▸ h.row.set i _, fun j hj => ?_, ?_, by rw [World.frozen?_setCell]; exact h.fr, h.below.setCell (by simp; omega) _, hb1, hb2, hb3⟩
    · rw [World.cell?_setCell_other _ _ _ _ (fun e => by have := congrArg Addr.block e; simp at this; omega), World.frozen?_setCell]; exact h.holds j hj
    · rw [World.cell?_setCell_other _ _ _ _ (fun e => by have := congrArg Addr.block e; simp at this; omega), c1]
      congr 2
      unfold lf at *; split at hL <;> split <;> omega
  · refine key _ ⟨hps ▸ (h.row.other ⟨B, 0, none⟩ _ (by simp; omega)).set i _, fun j hj => ?_, ?_, by rw [World.frozen?_setCell, World.frozen?_setCell]; exact h.fr, (h.below.setCell (by simp; omega) _).setCell (by simp; omega) _, hb1, hb2, hb3⟩
    · rw [World.cell?_setCell_other _ _ _ _ (fun e => by have := congrArg Addr.block e; simp at this; omega), World.cell?_setCell_other _ _ _ _ (fun e => by have := congrArg Addr.block e; simp at this; omega), World.frozen?_setCell, World.frozen?_setCell]; exact h.holds j hj
    · rw [World.cell?_setCell_other _ _ _ _ (fun e => by have := congrArg Addr.block e; simp at this; omega), World.cell?_setCell_same _ _ _ c1]
      congr 2
      unfold lf at *; split at hL <;> split <;> omega
set_option maxRecDepth 100000 in
set_option maxHeartbeats 4000000 in
theorem split_yes (T : Int) (a : Option Addr) (cap : Nat) (l : List Int) (w : World) (hI : Ints w a l) (hr : ∀ x ∈ l, -9223372036854775808 ≤ x ∧ x ≤ 9223372036854775807) (hg : good l = true) (h0 : 0 ≤ T) (h1 : T < 4611686018427387904) :
    Calls Try.prog 9 #[.int .i64 T, .slice a l.length cap] w (SRes T l w) := by
  have FI := Lib.hid (fine_of hg h0 h1)
  have hl1 : l.length ≤ 4096 := ((good_iff l).1 hg).1
  have K := Lib.hid (weigh_c a cap l w hI hr (by omega))
  have HI := Lib.hid hI
  have HG := Lib.hid hg
  obtain ⟨A, hA⟩ : ∃ A, A = l.sum := ⟨_, rfl⟩
  rw [← hA] at FI
  have ha0 := FI.out.a0
  have ha1 := FI.out.a1
  obtain ⟨n, hn⟩ : ∃ n, n = l.length := ⟨_, rfl⟩
  have hn1 : 1 ≤ n := by
    rcases Nat.eq_zero_or_pos n with e | e
    · have e2 : l = [] := List.length_eq_zero_iff.1 (by omega)
      have e3 := FI.out.sum
      rw [e2] at e3; simp at e3; omega
    · exact e
  rw [← hn] at K hl1 ⊢
  have HN := Lib.hid hn
  have HA := Lib.hid hA
  obtain ⟨i0, hi, hz0, hz1, hz2⟩ := info_parts infoSh
  obtain ⟨i1, hj, hy0, hy1, hy2⟩ := info_parts infoI64
  have hmf := makeF
  have d1 : decide (T < 0) = false := decide_eq_false (by omega)
  have d2 : decide (4611686018427387904 ≤ T) = false := decide_eq_false (by omega)
  clear hI hr hg hA hn
  go_enter Try.func9, Try.ntmps9
  go_wp2_with fail
  refine K.out.mono ?_
  rintro e w1 ⟨v, rfl, hv, hb⟩
  obtain rfl : v = A := by rw [hv HG.out]; exact HA.out.symm
  clear hv
  rw [HG.out]
  have HB := Lib.hid hb
  have hb1 := hb.size
  clear hb
  go_wp2_with fail
  obtain ⟨B, hBB⟩ : ∃ B, B = w1.heap.size := ⟨_, rfl⟩
  have L0 : Hid (LS T v l w B 0 (.slice none 0 0) (w1.alloc (.cells #[.int .i64 T] 2))) := by
    subst hBB
    exact ⟨by rw [cells3_zero]; exact World.ownsRow_nil _ _ _ _, by simp [go_sem, sm], by simp [go_sem], by simp, hb1, HB.out.alloc (by omega) _⟩
  rw [← hBB]
  clear K HB hb1 hBB
  generalize w1.alloc (.cells #[.int .i64 T] 2) = W0 at L0 ⊢
  go_loopw [8, 37] (fun s8 s37 wr => ∃ (k : Nat) (u : Value), u = s8 ∧ s37 = .int .i64 (k : Int) ∧ k ≤ n ∧ Hid (LS T v l w B k u wr)) (fun _ s37 _ => n - (intOf s37).toNat)
  case atStart => exact ⟨0, _, rfl, rfl, Nat.zero_le _, L0⟩
  case round =>
    clear L0
    obtain ⟨k, u, rfl, rfl, hk, HL⟩ := hrel
    by_cases hlt : k < n
    · have hltz : (k : Int) < (n : Int) := by omega
      obtain ⟨b, off, rfl, hb, hc⟩ : ∃ b off, a = some ⟨b, off, none⟩ ∧ b < w.heap.size ∧ ∀ j, j < l.length → w.cell? ⟨b, off + j, none⟩ = some (.int .i64 (l.getD j 0)) := by
        rcases HI.out with h | h
        · have := HN.out; rw [h] at this; simp at this; omega
        · exact h
      have hkl : k < l.length := by rw [← HN.out]; exact hlt
      have hck : wr.cell? ⟨b, off + k, none⟩ = some (.int .i64 (l.getD k 0)) := by rw [HL.out.below.cell (by exact hb)]; exact hc k hkl
      clear hc
      obtain ⟨q0, q1, r0, r1⟩ := FI.out.q k hkl
      have x0 := FI.out.pos k hkl
      have x1 := FI.out.le k hkl
      have p0 := FI.out.part k (by omega)
      have p1 := FI.out.part (k + 1) (by omega)
      have hsn := cells3_snoc T v l k
      have hsm : sm (fun i => T * l.getD i 0 / v) (k + 1) = sm (fun i => T * l.getD i 0 / v) k + T * l.getD k 0 / v := rfl
      have KM := Lib.hid (fun w => muldiv_in T (l.getD k 0) v _ _ w ⟨by omega, by omega⟩ ⟨by omega, by omega⟩ (by omega) (by omega) rfl rfl (by omega) (by omega))
      have c0 : wr.cell? ⟨B, 0, none⟩ = some (.int .i64 (T - sm (fun i => T * l.getD i 0 / v) k)) := HL.out.left
      rw [hsm] at p1
      have HSM := Lib.hid hsm
      have HSN := Lib.hid hsn
      clear hsm hsn c0
      obtain ⟨p0, p0'⟩ := p0
      obtain ⟨p1, p1'⟩ := p1
      generalize hx : l.getD k 0 = x at *
      generalize hq : T * x / v = q at *
      generalize hrr : T * x % v = r at *
      generalize hs : sm (fun i => T * l.getD i 0 / v) k = s0 at *
      have HX := Lib.hid hx
      clear hx hq hrr
      go_wp2_with fail
      refine (KM.out _).mono ?_
      rintro e w3 ⟨rfl, b3⟩
      have HO : Hid (w3.ownsRow (B + 1) 44 3 u k (cells3 T v l k)) := own_later HL.out.row b3
      have hz3 := b3.size
      have hBl := HL.out.lt
      have HB3 : Hid (Below w.heap.size w w3) := HL.out.below.trans (b3.mono HL.out.below.size)
      have hc3 : w3.cell? ⟨B, 0, none⟩ = some (.int .i64 (T - s0)) := by rw [b3.cell (by exact hBl), HL.out.left, hs]
      have hf3 : w3.frozen? ⟨B, 0, none⟩ = false := by rw [b3.frozen (by exact hBl)]; exact HL.out.fr
      have hge := HL.out.ge
      have HC3 := Lib.hid (And.intro hc3 hf3)
      clear b3 HL hc3 hf3
      go_wp2_with (at_builtin; refine wpList_append_own _ rfl _ _ 42 rfl (B + 1) 44 i0 (.agg #[.int .i64 0, .int .i64 0, .int .i64 0]) 3 24 Try.underlying42 hi hz0 hz1 hz2 rfl (by decide) _ _ _ rfl (HO.out.alloc _) ⟨w3.heap.size, 0, none⟩ 1 1 [.int .i64 (k : Int), .int .i64 q, .int .i64 r] rfl rfl ?c0 ?c1 ?c2 ?c3 ?c4 ?_)
      case c0 => exact three_new _ _ _ _ _
      case c1 => simp [Value.oneCell']
      case c2 => unfold maxLen; omega
      case c3 => omega
      case c4 => simp; omega
      intro v' w4 hown hgrow hz4
      clear hz4
      have HB4 : Hid (Below (B + 1) w3 w4) := grown_below HO.out (by omega) hgrow
      have hc4 : w4.cell? ⟨B, 0, none⟩ = some (.int .i64 (T - s0)) := by rw [HB4.out.cell (by simp)]; exact HC3.out.1
      have hf4 : w4.frozen? ⟨B, 0, none⟩ = false := by rw [HB4.out.frozen (by simp)]; exact HC3.out.2
      have hz4 := HB4.out.size
      have HO4 : Hid (w4.ownsRow (B + 1) 44 3 v' (k + 1) (cells3 T v l (k + 1))) := by
        show w4.ownsRow _ _ _ _ _ _
        rw [HSN.out]; exact hown
      clear hown hgrow
      go_wp2_with fail
      refine ⟨⟨k + 1, v', rfl, by go_num, by omega, ?_⟩, by simp [intOf]; omega⟩
      refine Lib.hid ⟨own_set HO4.out (by omega) _, ?_, ?_, by simp; omega, hge, ?_⟩
      · rw [HSM.out]; simp [go_sem, hc4]; omega
      · rw [World.frozen?_setCell]; exact hf4
      · exact (HB3.out.trans (HB4.out.mono (by omega))).setCell (by simpa using hge) _
    · obtain rfl : n = k := by omega
      obtain ⟨g, cp, rfl⟩ := own_form HL.out.row hn1
      have hgb : B + 1 ≤ g ∧ g < wr.heap.size := HL.out.row.lt g rfl
      have hge := HL.out.ge
      have hBl := HL.out.lt
      obtain ⟨w5, hmk, hown5, hgrow5⟩ := run_make_full (P := Try.prog) (w := wr) wr.heap.size 22 2 i1 (.int .i64 0) 1 Try.underlying22 hj hy0 hy1 .i64 .i64 n (by rw [hy2]; omega) (by unfold maxLen; omega) (Nat.le_refl _)
      have b5 : Below wr.heap.size wr w5 := (Below.refl _ wr).grown hgrow5 (Nat.le_refl _) (fun j ej => by cases ej)
      have HH : HoldsK enc 3 w5 g 0 (shs T v l n) := holds_own (own_later HL.out.row b5)
      have R5 : RowAt w5 wr.heap.size (part T v l 0) := by
        have := row_own hown5
        rwa [part_zero, ← HN.out]
      rw [HN.out] at HH
      have KO := ordered_c T v l g 0 cp w5 HH (Nat.lt_of_lt_of_le hgb.2 b5.size) (by have := HN.out; omega)
      rw [← HN.out] at KO
      have KOH := Lib.hid KO
      have hc5 : w5.cell? ⟨B, 0, none⟩ = some (.int .i64 (T - sm (fun i => T * l.getD i 0 / v) n)) := by rw [b5.cell (by exact hBl)]; exact HL.out.left
      have hf5 : w5.frozen? ⟨B, 0, none⟩ = false := by rw [b5.frozen (by exact hBl)]; exact HL.out.fr
      have hl : T - sm (fun i => T * l.getD i 0 / v) n = Sp.left T v l := by unfold Sp.left; rw [HN.out]
      rw [hl] at hc5
      have P5 : Hid (RowAt w5 wr.heap.size (part T v l 0) ∧ w5.cell? ⟨B, 0, none⟩ = some (.int .i64 (Sp.left T v l)) ∧ w5.frozen? ⟨B, 0, none⟩ = false ∧ Below w.heap.size w w5 ∧ wr.heap.size < w5.heap.size) := ⟨R5, hc5, hf5, HL.out.below.trans (b5.mono (by omega)), by have := R5.lt; omega⟩
      obtain ⟨gs, hgs⟩ : ∃ gs, gs = wr.heap.size := ⟨_, rfl⟩
      rw [← hgs] at hmk P5
      have hgs1 : g < gs := by omega
      have hgs2 : w.heap.size ≤ gs := by omega
      clear hown5 hgrow5 b5 HH R5 KO hc5 hf5 hl HL hgs hBl
      go_wp2_with fail
      refine KOH.out.mono ?_
      rintro e w6 ⟨rfl, d, OR⟩
      have z5 := OR.out.spares.size
      have P6 : Hid (RowAt w6 gs (part T v l 0) ∧ w6.cell? ⟨B, 0, none⟩ = some (.int .i64 (Sp.left T v l)) ∧ w6.frozen? ⟨B, 0, none⟩ = false ∧ Below w.heap.size w w6 ∧ gs < w6.heap.size ∧ B < g ∧ g < w6.heap.size) := by
        obtain ⟨p1, p2, p3, p4, p5⟩ := P5.out
        have sp := OR.out.spares
        refine ⟨⟨by have := p1.lt; omega, fun j hj => ?_, fun j hj => ?_⟩, ?_, ?_, p4.trans (sp.below (by omega) (by have := p4.size; omega)), by omega, by omega, by omega⟩
        · rw [sp.cell (by simp; omega) (by simpa using p5)]; exact p1.cell j hj
        · rw [sp.frozen (by simp; omega) (by simpa using p5)]; exact p1.free j hj
        · rw [sp.cell (by simp; omega) (by simp; omega)]; exact p2
        · rw [sp.frozen (by simp; omega) (by simp; omega)]; exact p3
      have HS6 := Lib.hid OR.out.srt
      have HH6 := Lib.hid OR.out.holds
      clear P5 OR KOH hmk z5
      go_wp2_with fail
      have LT0 : Hid (LT T v l w B g gs d 0 w6) := by
        obtain ⟨p1, p2, p3, p4, p5, p6, p7⟩ := P6.out
        have := FI.out.left_bd.1
        exact ⟨p1, HH6.out, by rw [p2]; congr 2; unfold lf; split <;> omega, p3, p4, hge, p6, hgs1⟩
      have hl0 := FI.out.left_bd.1
      have hl1 : Sp.left T v l ≤ (n : Int) := by have := FI.out.left_le; have := HN.out; omega
      clear P6 HH6
      go_loopw [68] (fun s68 wr => ∃ p : Nat, s68 = .int .i64 (p : Int) ∧ p ≤ n ∧ Hid (LT T v l w B g gs d p wr)) (fun s68 _ => n - (intOf s68).toNat)
      case atStart => exact ⟨0, rfl, Nat.zero_le _, LT0⟩
      case round =>
        clear LT0
        obtain ⟨p, rfl, hp, HL⟩ := hrel
        by_cases hlt : p < n
        · have hltz : (p : Int) < (n : Int) := by omega
          have hpl : p < l.length := by rw [← HN.out]; exact hlt
          obtain ⟨i, hi', hd⟩ := HS6.out.at_ p hpl
          have hcnt := HS6.out.cnt hpl hd
          have hin : i < n := by rw [HN.out]; exact hi'
          have hdz : d.size = l.length := HS6.out.size
          have k0 := (HoldsK.cell HL.out.holds (i := p) (c := 0) (by omega) (by omega)).1
          have k1 := (HoldsK.cell HL.out.holds (i := p) (c := 1) (by omega) (by omega)).1
          have k2 := (HoldsK.cell HL.out.holds (i := p) (c := 2) (by omega) (by omega)).1
          rw [hd] at k0 k1 k2
          have k0 : wr.cell? ⟨g, p * 3, none⟩ = some (.int .i64 (i : Int)) := by simpa [enc, sh] using k0
          have k1 : wr.cell? ⟨g, p * 3 + 1, none⟩ = some (.int .i64 (T * l.getD i 0 / v)) := by simpa [enc, sh] using k1
          have k2 : wr.cell? ⟨g, p * 3 + 2, none⟩ = some (.int .i64 (T * l.getD i 0 % v)) := by simpa [enc, sh] using k2
          obtain ⟨q0, q1, -, -⟩ := FI.out.q i hi'
          have HV : Hid (slice T v l i = T * l.getD i 0 / v + if (p : Int) < Sp.left T v l then 1 else 0) := by show slice T v l i = _; unfold slice; rw [hcnt]
          have hgl := HL.out.row.lt
          have ci := HL.out.row.cell i (by rw [part_len]; exact hi')
          have fi := HL.out.row.free i (by rw [part_len]; exact hi')
          have cB := HL.out.left
          have fB := HL.out.fr
          generalize (part T v l p)[i]'(by rw [part_len]; exact hi') = y at ci
          have HD := Lib.hid hd
          clear hd hcnt hdz
          generalize T * l.getD i 0 / v = q at *
          generalize T * l.getD i 0 % v = r at *
          have hBg : B < wr.heap.size := by omega
          by_cases hu : (p : Int) < Sp.left T v l
          · obtain ⟨L, hL⟩ : ∃ L, lf (Sp.left T v l) p = L := ⟨_, rfl⟩
            have hlf1 : 1 ≤ L := by rw [← hL]; unfold lf; rw [if_neg (by omega)]; omega
            have hlf2 : L ≤ 9223372036854775807 := by rw [← hL]; unfold lf; rw [if_neg (by omega)]; omega
            have HU : Hid (slice T v l i = q + 1) := by show slice T v l i = q + 1; rw [HV.out, if_pos hu]
            rw [hL] at cB
            have HLF := Lib.hid hL
            clear hL HV hu hl0 hl1
            have KU := Lib.hid (fun w hc hf => unit1_c B L w hc hf hlf1 hlf2)
            have wq : IntKind.i64.wrap (q + 1) = q + 1 := by rw [IntKind.wrap_i64]; omega
            go_wp2_with fail
            go_region_with (go_at_call 18; refine (KU.out _ (by simp [go_sem, cB, hBg]) (by simp [go_sem, fB, hBg])).mono ?_; rintro e w' ⟨rfl, rfl⟩)
            all_goals
              go_wp2_with fail
              exact ⟨⟨p + 1, by go_num, by omega, Lib.hid (HL.out.step HS6.out hpl hi' HD.out _ L HU.out HLF.out _ (Or.inr ⟨rfl, hlf1⟩))⟩, by simp [intOf]; omega⟩
          · have hL : lf (Sp.left T v l) p = 0 := by unfold lf; rw [if_pos (by omega)]
            have HU : Hid (slice T v l i = q) := by show slice T v l i = q; rw [HV.out, if_neg hu, Int.add_zero]
            rw [hL] at cB
            have HLF := Lib.hid hL
            clear hL HV hu hl0 hl1
            have KU := Lib.hid (fun w hc => unit0_c B w hc)
            have wq : IntKind.i64.wrap q = q := by rw [IntKind.wrap_i64]; omega
            go_wp2_with fail
            go_region_with (go_at_call 18; refine (KU.out _ (by simp [go_sem, cB, hBg])).mono ?_; rintro e w' ⟨rfl, rfl⟩)
            all_goals
              go_wp2_with fail
              exact ⟨⟨p + 1, by go_num, by omega, Lib.hid (HL.out.step HS6.out hpl hi' HD.out _ 0 HU.out HLF.out _ (Or.inl ⟨rfl, rfl⟩))⟩, by simp [intOf]; omega⟩
        · obtain rfl : n = p := by omega
          clear hl0 hl1
          go_wp2_with fail
          go_ret2
          refine ⟨gs, by rw [← HN.out]; rfl, ?_, hgs2, HL.out.below, ?_⟩
          · have := HL.out.row
            rw [HN.out, part_all, HA.out] at this
            exact this
          · rw [← HA.out]; exact ⟨d, HS6.out⟩
end Go.Proofs.Ytinfjfjheimceaa.Sp
