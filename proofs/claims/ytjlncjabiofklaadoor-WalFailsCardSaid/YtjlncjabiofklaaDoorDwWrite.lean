/- Package drive: what Write does with a sector. -/
import Derived.Test.YtjlncjabiofklaaDoorDwBuild
import Derived.Test.YtjlncjabiofklaaDoorRgE
import Derived.Lib.LazyBuf
import Derived.Deep.AppendLies
import Derived.Deep.DeepCutAuto
namespace Go.Proofs.YtjlncjabiofklaaDoor.Dv
open Go Go.RowKit Rf
theorem u8size : ∀ w, (Go.sizeOf 5).run Tryd.prog w = .ok 1 w := fun _ => by kernel_rfl
theorem infoW : (Tryd.prog.info? TW).map (fun i => (i.zero, i.size, i.bytes)) = some (some (.agg (wc (0, List.replicate 64 0)).toArray), 65, 72) := by kernel_rfl
theorem infoS : (Tryd.prog.info? TS).map (·.size) = some 64 := by kernel_rfl
def zs : List UInt8 := List.replicate 64 0
def ZS : Array Value := (sc zs).toArray
theorem ZS_size : ZS.size = 64 := by decide
theorem ZS_list : ZS.toList = sc zs := rfl
theorem buildS (u : World) : (Instr.build TS #[]).run Tryd.prog u = .ok (.agg ZS) u := by kernel_rfl
/-- A part of a sector, written. -/
theorem AtV.setV {w : World} {g bv bd : Nat} {pv fv : Value} {V : List Sec} {x : Dr} (h : AtV w g bv bd pv fv V x) (hV : ∀ s ∈ V, s.length = 64) (k : Nat) (o : Sec) (ho : V[k]? = some o) (s : Sec) (hs : s.length ≤ 64) :
    AtV (w.setCells bv (k * 64) (sc s)) g bv bd pv fv (V.set k (s ++ o.drop s.length)) x := by
  have K : Keeps (fun j => j = bv) w (w.setCells bv (k * 64) (sc s)) := (Keeps.refl _ w).setCells bv (k * 64) _ (.inl rfl)
  have hl := flat_len hV
  have hk : k < V.length := (List.getElem?_eq_some_iff.1 ho).1
  have ho' : V[k] = o := (List.getElem?_eq_some_iff.1 ho).2
  subst ho'
  refine ⟨h.blk.keeps K (h.blk.type h.v (by decide)), ?_, h.d.keeps K (Ne.symm h.ne), own_keeps h.p K (fun j hj e => own_type h.p h.v (by decide) (e ▸ hj)), h.f.keeps K (fun j hj e => ?_), h.ne⟩
  · rw [← flat_part hV k s hs hk]
    exact h.v.setCells (sc s) (k * 64) (by rw [sc_len, hl]; omega)
  · subst e
    rcases h.f with ⟨_, rfl⟩ | ⟨b, n, _, rfl, h3⟩
    · cases hj
    · cases hj
      exact h3.type h.v (by decide) rfl
theorem AtV.setV' {w : World} {g bv bd : Nat} {pv fv : Value} {V : List Sec} {x : Dr} (h : AtV w g bv bd pv fv V x) (hV : ∀ s ∈ V, s.length = 64) (k : Nat) (hk : k < V.length) (s : Sec) (hs : s.length = 64) :
    AtV (w.setCells bv (k * 64) (sc s)) g bv bd pv fv (V.set k s) x := by
  have := h.setV hV k V[k] (List.getElem?_eq_getElem hk) s (by omega)
  rwa [List.drop_eq_nil_of_le (by rw [hs, hV _ (List.getElem_mem hk)]; exact Nat.le_refl _), List.append_nil] at this
theorem set_64 {V : List Sec} (hV : ∀ s ∈ V, s.length = 64) (k : Nat) (s : Sec) (hs : s.length = 64) : ∀ t ∈ V.set k s, t.length = 64 := fun t ht => by
  rcases List.mem_or_eq_of_mem_set ht with h | h
  · exact hV t h
  · rw [h]; exact hs
theorem AtV.thereV {w : World} {g bv bd : Nat} {pv fv : Value} {V : List Sec} {x : Dr} (h : AtV w g bv bd pv fv V x) (hV : ∀ s ∈ V, s.length = 64) (k : Nat) (hk : k < V.length) (n : Nat) (hn : n ≤ 64) : w.there bv (k * 64) n :=
  h.v.there _ _ (by rw [flat_len hV]; omega)
theorem AtV.rangeV {w : World} {g bv bd : Nat} {pv fv : Value} {V : List Sec} {x : Dr} (h : AtV w g bv bd pv fv V x) (hV : ∀ s ∈ V, s.length = 64) (k : Nat) (hk : k < V.length) : w.rangeAt bv (k * 64) (sc V[k]) :=
  h.v.range _ _ (by rw [sc_len, hV _ (List.getElem_mem hk)]; exact flat_at hV k hk)
theorem own_later' {w w' : World} {base e size n : Nat} {v : Value} {xs : List Value} (h : w.ownsRow base e size v n xs) (k : Below w.heap.size w w') : w'.ownsRow base e size v n xs := own_keeps h (Keeps.of (fun _ => False) k) fun _ _ h => h
/-- The variables that the closure has. -/
structure Bx (w : World) (q0 q1 q2 : Nat) (s : ByteArray) (g : Nat) (k : Int) : Prop where
  s : Rw w q0 9 [.string s]
  d : Rw w q1 23 [.pointer (some ⟨g, 0, none⟩)]
  n : Rw w q2 3 [.int .i64 k]
theorem Bx.keeps {T : Nat → Prop} {w w' : World} {q0 q1 q2 : Nat} {s : ByteArray} {g : Nat} {k : Int} (h : Bx w q0 q1 q2 s g k) (K : Keeps T w w') (h0 : ¬ T q0) (h1 : ¬ T q1) (h2 : ¬ T q2) : Bx w' q0 q1 q2 s g k := ⟨h.s.keeps K h0, h.d.keeps K h1, h.n.keeps K h2⟩
theorem AtV.drew {w : World} {g bv bd : Nat} {pv fv : Value} {V : List Sec} {x : Dr} (h : AtV w g bv bd pv fv V x) : AtV w.drew g bv bd pv fv V x := h.later ((Below.refl _ w).drew)
theorem set_pad (V : List Sec) (k : Nat) (s : Sec) : (V.set k zs).set k (s ++ zs.drop s.length) = V.set k (pad s) := by
  rw [List.set_set]
  congr 1
  unfold pad zs
  rw [List.drop_replicate]
/-- What an append leaves. -/
def App (W : World) (pv : Value) (n : Nat) (xs wcs : List Value) (v : Value) (u : World) : Prop :=
  u.ownsRow 0 TW 65 v (n + 1) (xs ++ wcs) ∧ (W.alloc (.cells wcs.toArray TW)).grownBy u pv.ownBlock ∧ (pv.ownBlock = v.ownBlock ∨ v.ownBlock = some (W.heap.size + 1)) ∧ ∃ a cap, v = .slice a (n + 1) cap
/-- How far the last statement has come. -/
def St (W : World) (g : Nat) (pv : Value) (n : Nat) (xs wcs : List Value) (f10 f11 f14 : Bool) (v : Value) (u : World) : Prop :=
  (f10 = false ∧ f11 = false ∧ f14 = false ∧ u = W) ∨ (f10 = true ∧ f11 = false ∧ f14 = false ∧ u = W.alloc (.cells wcs.toArray TW)) ∨ (f11 = true ∧ f14 = false ∧ App W pv n xs wcs v u) ∨ (f11 = true ∧ f14 = true ∧ ∃ u', App W pv n xs wcs v u' ∧ u = u'.setCell ⟨g, 2, none⟩ v)
theorem Rw.app {W u : World} {pv v : Value} {n b : Nat} {xs wcs L : List Value} {t : TypeId} (h : Rw W b t L) (k : App W pv n xs wcs v u) (hp : pv.ownBlock ≠ some b) : Rw u b t L := by
  have h1 : Rw (W.alloc (.cells wcs.toArray TW)) b t L := h.later ((Below.refl _ W).alloc (Nat.le_refl _) _)
  exact h1.of (k.2.1.block b h1.lt (fun e => hp e.symm))
theorem Rw.st {W u : World} {g : Nat} {pv v : Value} {n b : Nat} {xs wcs L : List Value} {t : TypeId} {f10 f11 f14 : Bool} (h : Rw W b t L) (k : St W g pv n xs wcs f10 f11 f14 v u) (hp : pv.ownBlock ≠ some b) (hg : b ≠ g) : Rw u b t L := by
  rcases k with ⟨_, _, _, rfl⟩ | ⟨_, _, _, rfl⟩ | ⟨_, _, k⟩ | ⟨_, _, u', k, rfl⟩
  · exact h
  · exact h.later ((Below.refl _ W).alloc (Nat.le_refl _) _)
  · exact h.app k hp
  · exact (h.app k hp).otherCell g 2 v hg
/-- The open writes, one more. -/
theorem AtV.appended {W u : World} {g bv bd : Nat} {pv fv v : Value} {V : List Sec} {x : Dr} {p : Nat × Sec} (h : AtV W g bv bd pv fv V x) (k : App W pv x.P.length (flatP x.P) (wc p) v u) :
    AtV (u.setCell ⟨g, 2, none⟩ v) g bv bd v fv V ⟨x.D, x.P ++ [p], x.F⟩ := by
  have hg : pv.ownBlock ≠ some g := own_type h.p h.blk (by decide)
  have hv : pv.ownBlock ≠ some bv := own_type h.p h.v (by decide)
  have hd : pv.ownBlock ≠ some bd := own_type h.p h.d (by decide)
  have k1 := h.blk.app k hg
  have K : Keeps (fun j => j = g) u (u.setCell ⟨g, 2, none⟩ v) := (Keeps.refl _ u).setCell g 2 _ (.inl rfl)
  refine ⟨k1.setCell 2 v, (h.v.app k hv).otherCell g 2 v (h.v.type h.blk (by decide)), (h.d.app k hd).otherCell g 2 v (h.d.type h.blk (by decide)), ?_, ?_, h.ne⟩
  · have := own_keeps k.1 K (fun j hj e => own_type k.1 k1 (by decide) (e ▸ hj))
    simpa [flatP_snoc] using this
  · rcases h.f with h1 | ⟨b, n, h1, h2, h3⟩
    · exact .inl h1
    · exact .inr ⟨b, n, h1, h2, (h3.app k (own_type h.p h3 (by decide))).otherCell g 2 v (h3.type h.blk (by decide))⟩
set_option maxHeartbeats 1600000 in
theorem w1_long (q0 q1 q2 : Nat) (s : ByteArray) (g : Nat) (k : Int) (xv : Value) (w : World) (h : Bx w q0 q1 q2 s g k) (hs : 64 < s.size) : Calls Tryd.prog 67 #[xv, .pointer (some ⟨q0, 0, Option.none⟩), .pointer (some ⟨q1, 0, Option.none⟩), .pointer (some ⟨q2, 0, Option.none⟩)] w fun e w' => e = .returned (.int .i64 3) ∧ w = w' := by
  have c0 : w.cell? ⟨q0, 0, none⟩ = some (.string s) := h.s.cell 0
  clear h
  go_enter Tryd.func67, Tryd.ntmps67
  go_wp2_with fail
  go_ret
  exact ⟨rfl, rfl⟩
set_option maxHeartbeats 1600000 in
theorem w1_down (q0 q1 q2 : Nat) (s : ByteArray) (g bv bd : Nat) (pv fv : Value) (x : Dr) (k : Int) (xv : Value) (w : World) (h : Bx w q0 q1 q2 s g k) (hA : At w g bv bd pv fv x) (hs : s.size ≤ 64) (hF : burn x.F = none) : Calls Tryd.prog 67 #[xv, .pointer (some ⟨q0, 0, Option.none⟩), .pointer (some ⟨q1, 0, Option.none⟩), .pointer (some ⟨q2, 0, Option.none⟩)] w fun e w' => e = .returned (.int .i64 30) ∧ w = w' := by
  have c0 : w.cell? ⟨q0, 0, none⟩ = some (.string s) := h.s.cell 0
  have c1 : w.cell? ⟨q1, 0, none⟩ = some (.pointer (some ⟨g, 0, Option.none⟩)) := h.d.cell 0
  have KB := Lib.hid (burn_no g bv bd pv fv x w hA hF)
  clear h hA hF
  go_enter Tryd.func67, Tryd.ntmps67
  go_wp2_with fail
  refine KB.out.mono ?_
  rintro e w' ⟨rfl, rfl⟩
  go_wp2_with fail
  go_ret
  exact ⟨rfl, rfl⟩
set_option maxRecDepth 100000 in
set_option maxHeartbeats 4000000 in
theorem w1_ok (q0 q1 q2 : Nat) (s : ByteArray) (g bv bd : Nat) (pv fv : Value) (x : Dr) (k : Nat) (F : Option Nat) (w : World) (h : Bx w q0 q1 q2 s g (k : Int)) (hA : At w g bv bd pv fv x) (hx : x.Ok) (hP : x.P.length ≤ 100000) (hk : k < x.D.length) (hs : s.size ≤ 64) (hF : burn x.F = some F)
    (n0 : ¬ Bs g bv bd pv fv q0) (n1 : ¬ Bs g bv bd pv fv q1) (n2 : ¬ Bs g bv bd pv fv q2) : Calls Tryd.prog 67 #[.pointer (some ⟨bv, k * 64, Option.none⟩), .pointer (some ⟨q0, 0, Option.none⟩), .pointer (some ⟨q1, 0, Option.none⟩), .pointer (some ⟨q2, 0, Option.none⟩)] w (Res 0 g bv bd pv fv ⟨x.D, x.P ++ [(k, pad s.data.toList)], F⟩ w) := by
  have c0 : w.cell? ⟨q0, 0, none⟩ = some (.string s) := h.s.cell 0
  have c1 : w.cell? ⟨q1, 0, none⟩ = some (.pointer (some ⟨g, 0, Option.none⟩)) := h.d.cell 0
  have KB := Lib.hid (burn_yes g bv bd pv fv x F w hA hx hF)
  have HB := Lib.hid h
  have HX := Lib.hid hx
  have hv := hx.v
  have HV := Lib.hid hv
  have hkV : k < x.V.length := by rw [Dr.vlen]; exact hk
  have HKV := Lib.hid hkV
  have hbz := buildS
  obtain ⟨ps, hps⟩ : ∃ ps, pad s.data.toList = ps := ⟨_, rfl⟩
  have HPS := Lib.hid (show ps.length = 64 by rw [← hps]; exact pad_len (by rw [← Lib.size_eq]; exact hs))
  have HPE := Lib.hid hps
  rw [hps]
  clear hps
  clear h hA hF hv hx
  go_enter Tryd.func67, Tryd.ntmps67
  go_wp2_with fail
  refine KB.out.mono ?_
  rintro e W ⟨rfl, hA1, hK1⟩
  have A1 := Lib.hid (show AtV W g bv bd pv fv x.V ⟨x.D, x.P, F⟩ from hA1)
  have K1 := Lib.hid hK1
  have B1 := Lib.hid (HB.out.keeps hK1 (fun e => n0 (.inr (.inr (.inr (.inr e))))) (fun e => n1 (.inr (.inr (.inr (.inr e))))) (fun e => n2 (.inr (.inr (.inr (.inr e))))))
  clear hA1 hK1 c0 c1 KB
  go_wp2_with (with_reducible refine wpList_store_mid rfl TS _ _ rfl bv (k * 64) ZS rfl rfl ?t ?i ?o ?_)
  case t => rw [ZS_size]; exact A1.out.thereV HV.out k HKV.out 64 (Nat.le_refl _)
  case i => rw [ZS_size]; exact infoS
  case o => exact all_oneCell_toArray sc_one
  rw [ZS_list]
  have hA2 := A1.out.setV' HV.out k HKV.out zs (by decide)
  have B2' : Bx (W.setCells bv (k * 64) (sc zs)) q0 q1 q2 s g (k : Int) := B1.out.keeps ((Keeps.refl (fun j => j = bv) W).setCells bv (k * 64) _ (.inl rfl)) (fun e => n0 (.inr (.inl e))) (fun e => n1 (.inr (.inl e))) (fun e => n2 (.inr (.inl e)))
  have hK2 := K1.out.mono (S := Bs g bv bd pv fv) (fun j hj => .inl (.inr (.inr (.inr (.inr hj)))))
  have hK2' := hK2.setCells bv (k * 64) (sc zs) (.inl (.inr (.inl rfl)))
  generalize W.setCells bv (k * 64) (sc zs) = W2 at *
  have A2 := Lib.hid hA2
  have B2 := Lib.hid B2'
  have K2 := Lib.hid hK2'
  have HK2 := Lib.hid (show k < (x.V.set k zs).length by simpa using HKV.out)
  have HV2 := Lib.hid (show ∀ s ∈ x.V.set k zs, s.length = 64 from set_64 HV.out k zs (by decide))
  clear hA2 B2' hK2 hK2' A1 B1 K1
  simp only [Act.put]
  go_cut [22] (fun _ wx => wx = W2.drew.setCells bv (k * 64) (sc s.data.toList))
  case first =>
    have HT := Lib.hid (A2.out.thereV HV2.out k HK2.out 64 (Nat.le_refl _))
    have hq0 : q0 ≠ bv := fun e => n0 (.inr (.inl e))
    refine wp_region_inv (I := (fun A0 L a u => ∃ (x0 x1 x2 x3 x4 : Value), a = putAll A0 [(18, x0), (19, x1), (20, x2), (21, x3), (22, x4)] ∧ (L 0 = true → x0 = (.pointer (some ⟨bv, k * 64, Option.none⟩))) ∧ (L 1 = true → x1 = (.pointer (some ⟨bv, k * 64, Option.none⟩))) ∧ (L 2 = true → x2 = (.slice (some ⟨bv, k * 64, Option.none⟩) 64 64)) ∧ (L 3 = true → x3 = (.string s)) ∧ ((L 4 = false ∧ u = W2.drew) ∨ (L 4 = true ∧ u = W2.drew.setCells bv (k * 64) (sc s.data.toList))))) (by kernel_rfl) (by kernel_rfl) ?_ ?_ ?_
    · intro L hL
      exact ⟨_, _, _, _, _, by (simp only [putAll, Act.put, List.setIfInBounds_toArray, List.set_cons_zero, List.set_cons_succ]; rfl), (fun h => absurd h (by rw [hL 0 (by decide)]; decide)), (fun h => absurd h (by rw [hL 1 (by decide)]; decide)), (fun h => absurd h (by rw [hL 2 (by decide)]; decide)), (fun h => absurd h (by rw [hL 3 (by decide)]; decide)), .inl ⟨hL 4 (by decide), rfl⟩⟩
    refine Steps.cons (i := 0) rfl ?_ ?_
    · rintro L a u ⟨x0, x1, x2, x3, x4, rfl, h0, h1, h2, h3, hm⟩ hi hd K hK
      simp only [putAll, Act.put, List.setIfInBounds_toArray, List.set_cons_zero, List.set_cons_succ]
      (try simp [Region.binds] at hd)
      replace h0 := Lib.hid h0
      replace h1 := Lib.hid h1
      replace h2 := Lib.hid h2
      replace h3 := Lib.hid h3
      go_simp
      exact hK.out _ _ ⟨_, _, _, _, _, by ((simp only [putAll, Act.put, List.setIfInBounds_toArray, List.set_cons_zero, List.set_cons_succ]) <;> rfl), (fun _ => rfl), h1.out, h2.out, h3.out, hm⟩
    refine Steps.cons (i := 1) rfl ?_ ?_
    · rintro L a u ⟨x0, x1, x2, x3, x4, rfl, h0, h1, h2, h3, hm⟩ hi hd K hK
      simp only [putAll, Act.put, List.setIfInBounds_toArray, List.set_cons_zero, List.set_cons_succ]
      (try simp [Region.binds] at hd)
      replace h0 := Lib.hid h0
      replace h1 := Lib.hid h1
      replace h2 := Lib.hid h2
      replace h3 := Lib.hid h3
      obtain rfl := (h0.out (by simp [hd])).symm
      go_simp
      exact hK.out _ _ ⟨_, _, _, _, _, by ((simp only [putAll, Act.put, List.setIfInBounds_toArray, List.set_cons_zero, List.set_cons_succ]) <;> rfl), h0.out, (fun _ => rfl), h2.out, h3.out, hm⟩
    refine Steps.cons (i := 2) rfl ?_ ?_
    · rintro L a u ⟨x0, x1, x2, x3, x4, rfl, h0, h1, h2, h3, hm⟩ hi hd K hK
      simp only [putAll, Act.put, List.setIfInBounds_toArray, List.set_cons_zero, List.set_cons_succ]
      (try simp [Region.binds] at hd)
      replace h0 := Lib.hid h0
      replace h1 := Lib.hid h1
      replace h2 := Lib.hid h2
      replace h3 := Lib.hid h3
      obtain rfl := (h1.out (by simp [hd])).symm
      go_simp
      exact hK.out _ _ ⟨_, _, _, _, _, by ((simp only [putAll, Act.put, List.setIfInBounds_toArray, List.set_cons_zero, List.set_cons_succ]) <;> rfl), h0.out, h1.out, (fun _ => rfl), h3.out, hm⟩
    refine Steps.cons (i := 3) rfl ?_ ?_
    · rintro L a u ⟨x0, x1, x2, x3, x4, rfl, h0, h1, h2, h3, hm⟩ hi hd K hK
      simp only [putAll, Act.put, List.setIfInBounds_toArray, List.set_cons_zero, List.set_cons_succ]
      (try simp [Region.binds] at hd)
      replace h0 := Lib.hid h0
      replace h1 := Lib.hid h1
      replace h2 := Lib.hid h2
      replace h3 := Lib.hid h3
      have c0 : u.cell? ⟨q0, 0, none⟩ = some (.string s) := by rcases hm with ⟨_, rfl⟩ | ⟨_, rfl⟩; exact B2.out.s.cell 0; exact ((B2.out.s.drew).other bv (k * 64) _ hq0).cell 0
      go_simp
      exact hK.out _ _ ⟨_, _, _, _, _, by ((simp only [putAll, Act.put, List.setIfInBounds_toArray, List.set_cons_zero, List.set_cons_succ]) <;> rfl), h0.out, h1.out, h2.out, (fun _ => rfl), hm⟩
    refine Steps.cons (i := 4) rfl ?_ ?_
    · rintro L a u ⟨x0, x1, x2, x3, x4, rfl, h0, h1, h2, h3, hm⟩ hi hd K hK
      simp only [putAll, Act.put, List.setIfInBounds_toArray, List.set_cons_zero, List.set_cons_succ]
      (try simp [Region.binds] at hd)
      replace h0 := Lib.hid h0
      replace h1 := Lib.hid h1
      replace h2 := Lib.hid h2
      replace h3 := Lib.hid h3
      obtain rfl := (h2.out (by simp [hd])).symm
      obtain rfl := (h3.out (by simp [hd])).symm
      obtain rfl : u = W2.drew := by rcases hm with ⟨_, h⟩ | ⟨h, _⟩; exact h; rw [hi] at h; cases h
      have hrun := run_copy_string (P := Tryd.prog) W2.drew 71 9 3 5 bv (k * 64) 64 64 s Tryd.underlying71 u8size hs (fun j hj => ((HT.out j (by omega))).1) (fun j hj => ((HT.out j (by omega))).2)
      go_simp
      exact hK.out _ _ ⟨_, _, _, _, _, by ((simp only [putAll, Act.put, List.setIfInBounds_toArray, List.set_cons_zero, List.set_cons_succ]) <;> rfl), h0.out, h1.out, h2.out, h3.out, .inr ⟨rfl, rfl⟩⟩
    · exact Steps.nil
    · rintro L a u ⟨x0, x1, x2, x3, x4, rfl, h0, h1, h2, h3, hm⟩ hall
      rcases hm with ⟨h, _⟩ | ⟨_, rfl⟩
      · rw [hall 4 (by decide)] at h; cases h
      simp only [putAll, Act.put, List.setIfInBounds_toArray, List.set_cons_zero, List.set_cons_succ]
      go_wp2_with fail
      go_meet
      exact rfl
  subst hcut
  have hsz : s.data.toList.length ≤ 64 := by rw [← Lib.size_eq]; exact hs
  have hA3 := A2.out.drew.setV HV2.out k zs (by rw [List.getElem?_set_self HKV.out]) s.data.toList hsz
  rw [set_pad] at hA3
  have B3' : Bx (W2.drew.setCells bv (k * 64) (sc s.data.toList)) q0 q1 q2 s g (k : Int) := B2.out.keeps (((Keeps.refl (fun j => j = bv) W2).drew).setCells bv (k * 64) _ (.inl rfl)) (fun e => n0 (.inr (.inl e))) (fun e => n1 (.inr (.inl e))) (fun e => n2 (.inr (.inl e)))
  have hK3 := K2.out.drew.setCells bv (k * 64) (sc s.data.toList) (.inl (.inr (.inl rfl)))
  generalize W2.drew.setCells bv (k * 64) (sc s.data.toList) = W3 at *
  have A3 := Lib.hid hA3
  have B3 := Lib.hid B3'
  have K3 := Lib.hid hK3
  rw [HPE.out] at A3
  have HR := Lib.hid (show ((flat (x.V.set k ps)).drop (k * 64)).take (sc ps).length = sc ps by
    have h := flat_at (L := x.V.set k ps) (set_64 HV.out k ps HPS.out) k (by simpa using HKV.out)
    rw [sc_len, HPS.out, h, List.getElem_set_self])
  have hbw := fun u => buildW (k : Int) (sc ps) (by rw [sc_len, HPS.out]) u
  have hbs := fun u => sliceW (wc (k, ps)) (by simp [wc, sc_len, HPS.out]) u
  have HBW := Lib.hid (show ∀ u, (Instr.build TW #[(0, .int .i64 (k : Int)), (1, .agg (sc ps).toArray)]).run Tryd.prog u = .ok (.agg (wc (k, ps)).toArray) u from hbw)
  have HBS := Lib.hid hbs
  clear hbw hbs
  clear hA3 B3' hK3 A2 B2 K2 HK2 HV2 hbz
  have npq1 : pv.ownBlock ≠ some q1 := fun e => n1 (.inr (.inr (.inr (.inl e))))
  have ngq1 : q1 ≠ g := fun e => n1 (.inl e)
  have npq2 : pv.ownBlock ≠ some q2 := fun e => n2 (.inr (.inr (.inr (.inl e))))
  have ngq2 : q2 ≠ g := fun e => n2 (.inl e)
  have npv : pv.ownBlock ≠ some bv := own_type A3.out.p A3.out.v (by decide)
  have nvg : bv ≠ g := A3.out.v.type A3.out.blk (by decide)
  have npg : pv.ownBlock ≠ some g := own_type A3.out.p A3.out.blk (by decide)
  go_upto_region 8 with (fail)
  go_cut [34] (fun _ wx => ∃ v' u', App W3.drew pv x.P.length (flatP x.P) (wc (k, ps)) v' u' ∧ wx = u'.setCell ⟨g, 2, none⟩ v')
  case first =>
    refine wp_region_inv (I := (fun A0 L a u => ∃ (x0 x1 x2 x3 x4 x5 x6 x7 x8 x9 x10 x11 x12 x13 : Value), a = putAll A0 [(23, x0), (24, x1), (25, x2), (26, x3), (27, x4), (28, x5), (29, x6), (30, x7), (31, x8), (32, x9), (33, x10), (34, x11), (35, x12), (36, x13)] ∧ (L 0 = true → x0 = (.pointer (some ⟨g, 0, Option.none⟩))) ∧ (L 1 = true → x1 = (.pointer (some ⟨g, 0, Option.none⟩))) ∧ (L 2 = true → x2 = (.pointer (some ⟨g, 0, Option.none⟩))) ∧ (L 3 = true → x3 = (.pointer (some ⟨g, 2, Option.none⟩))) ∧ (L 4 = true → x4 = pv) ∧ (L 5 = true → x5 = (.int .i64 (k : Int))) ∧ (L 6 = true → x6 = (.pointer (some ⟨bv, k * 64, Option.none⟩))) ∧ (L 7 = true → x7 = (.pointer (some ⟨bv, k * 64, Option.none⟩))) ∧ (L 8 = true → x8 = (.agg (sc ps).toArray)) ∧ (L 9 = true → x9 = (.agg (wc (k, ps)).toArray)) ∧ (L 10 = true → x10 = (.slice (some ⟨W3.heap.size, 0, none⟩) 1 1)) ∧ (L 12 = true → x12 = (.pointer (some ⟨g, 0, Option.none⟩))) ∧ (L 13 = true → x13 = (.pointer (some ⟨g, 2, Option.none⟩))) ∧ ((L 11 = true → L 4 = true ∧ L 10 = true) ∧ St W3.drew g pv x.P.length (flatP x.P) (wc (k, ps)) (L 10) (L 11) (L 14) x11 u))) (by kernel_rfl) (by kernel_rfl) ?_ ?_ ?_
    · intro L hL
      exact ⟨_, _, _, _, _, _, _, _, _, _, _, _, _, _, by (simp only [putAll, Act.put, List.setIfInBounds_toArray, List.set_cons_zero, List.set_cons_succ]; rfl), (fun h => absurd h (by rw [hL 0 (by decide)]; decide)), (fun h => absurd h (by rw [hL 1 (by decide)]; decide)), (fun h => absurd h (by rw [hL 2 (by decide)]; decide)), (fun h => absurd h (by rw [hL 3 (by decide)]; decide)), (fun h => absurd h (by rw [hL 4 (by decide)]; decide)), (fun h => absurd h (by rw [hL 5 (by decide)]; decide)), (fun h => absurd h (by rw [hL 6 (by decide)]; decide)), (fun h => absurd h (by rw [hL 7 (by decide)]; decide)), (fun h => absurd h (by rw [hL 8 (by decide)]; decide)), (fun h => absurd h (by rw [hL 9 (by decide)]; decide)), (fun h => absurd h (by rw [hL 10 (by decide)]; decide)), (fun h => absurd h (by rw [hL 12 (by decide)]; decide)), (fun h => absurd h (by rw [hL 13 (by decide)]; decide)), ⟨(fun h => absurd h (by rw [hL 11 (by decide)]; decide)), .inl ⟨hL 10 (by decide), hL 11 (by decide), hL 14 (by decide), rfl⟩⟩⟩
    refine Steps.cons (i := 0) rfl ?_ ?_
    · rintro L a u ⟨x0, x1, x2, x3, x4, x5, x6, x7, x8, x9, x10, x11, x12, x13, rfl, h0, h1, h2, h3, h4, h5, h6, h7, h8, h9, h10, h12, h13, hm⟩ hi hd K hK
      simp only [putAll, Act.put, List.setIfInBounds_toArray, List.set_cons_zero, List.set_cons_succ]
      (try simp [Region.binds] at hd)
      replace h0 := Lib.hid h0
      replace h1 := Lib.hid h1
      replace h2 := Lib.hid h2
      replace h3 := Lib.hid h3
      replace h4 := Lib.hid h4
      replace h5 := Lib.hid h5
      replace h6 := Lib.hid h6
      replace h7 := Lib.hid h7
      replace h8 := Lib.hid h8
      replace h9 := Lib.hid h9
      replace h10 := Lib.hid h10
      replace h12 := Lib.hid h12
      replace h13 := Lib.hid h13
      have cq1 : u.cell? ⟨q1, 0, none⟩ = some (.pointer (some ⟨g, 0, Option.none⟩)) := (B3.out.d.drew.st hm.2 npq1 ngq1).cell 0
      go_simp
      exact hK.out _ _ ⟨_, _, _, _, _, _, _, _, _, _, _, _, _, _, by ((simp only [putAll, Act.put, List.setIfInBounds_toArray, List.set_cons_zero, List.set_cons_succ]) <;> rfl), (fun _ => rfl), h1.out, h2.out, h3.out, h4.out, h5.out, h6.out, h7.out, h8.out, h9.out, h10.out, h12.out, h13.out, hm⟩
    refine Steps.cons (i := 1) rfl ?_ ?_
    · rintro L a u ⟨x0, x1, x2, x3, x4, x5, x6, x7, x8, x9, x10, x11, x12, x13, rfl, h0, h1, h2, h3, h4, h5, h6, h7, h8, h9, h10, h12, h13, hm⟩ hi hd K hK
      simp only [putAll, Act.put, List.setIfInBounds_toArray, List.set_cons_zero, List.set_cons_succ]
      (try simp [Region.binds] at hd)
      replace h0 := Lib.hid h0
      replace h1 := Lib.hid h1
      replace h2 := Lib.hid h2
      replace h3 := Lib.hid h3
      replace h4 := Lib.hid h4
      replace h5 := Lib.hid h5
      replace h6 := Lib.hid h6
      replace h7 := Lib.hid h7
      replace h8 := Lib.hid h8
      replace h9 := Lib.hid h9
      replace h10 := Lib.hid h10
      replace h12 := Lib.hid h12
      replace h13 := Lib.hid h13
      have cq1 : u.cell? ⟨q1, 0, none⟩ = some (.pointer (some ⟨g, 0, Option.none⟩)) := (B3.out.d.drew.st hm.2 npq1 ngq1).cell 0
      go_simp
      exact hK.out _ _ ⟨_, _, _, _, _, _, _, _, _, _, _, _, _, _, by ((simp only [putAll, Act.put, List.setIfInBounds_toArray, List.set_cons_zero, List.set_cons_succ]) <;> rfl), h0.out, (fun _ => rfl), h2.out, h3.out, h4.out, h5.out, h6.out, h7.out, h8.out, h9.out, h10.out, h12.out, h13.out, hm⟩
    refine Steps.cons (i := 2) rfl ?_ ?_
    · rintro L a u ⟨x0, x1, x2, x3, x4, x5, x6, x7, x8, x9, x10, x11, x12, x13, rfl, h0, h1, h2, h3, h4, h5, h6, h7, h8, h9, h10, h12, h13, hm⟩ hi hd K hK
      simp only [putAll, Act.put, List.setIfInBounds_toArray, List.set_cons_zero, List.set_cons_succ]
      (try simp [Region.binds] at hd)
      replace h0 := Lib.hid h0
      replace h1 := Lib.hid h1
      replace h2 := Lib.hid h2
      replace h3 := Lib.hid h3
      replace h4 := Lib.hid h4
      replace h5 := Lib.hid h5
      replace h6 := Lib.hid h6
      replace h7 := Lib.hid h7
      replace h8 := Lib.hid h8
      replace h9 := Lib.hid h9
      replace h10 := Lib.hid h10
      replace h12 := Lib.hid h12
      replace h13 := Lib.hid h13
      obtain rfl := (h1.out (by simp [hd])).symm
      go_simp
      exact hK.out _ _ ⟨_, _, _, _, _, _, _, _, _, _, _, _, _, _, by ((simp only [putAll, Act.put, List.setIfInBounds_toArray, List.set_cons_zero, List.set_cons_succ]) <;> rfl), h0.out, h1.out, (fun _ => rfl), h3.out, h4.out, h5.out, h6.out, h7.out, h8.out, h9.out, h10.out, h12.out, h13.out, hm⟩
    refine Steps.cons (i := 3) rfl ?_ ?_
    · rintro L a u ⟨x0, x1, x2, x3, x4, x5, x6, x7, x8, x9, x10, x11, x12, x13, rfl, h0, h1, h2, h3, h4, h5, h6, h7, h8, h9, h10, h12, h13, hm⟩ hi hd K hK
      simp only [putAll, Act.put, List.setIfInBounds_toArray, List.set_cons_zero, List.set_cons_succ]
      (try simp [Region.binds] at hd)
      replace h0 := Lib.hid h0
      replace h1 := Lib.hid h1
      replace h2 := Lib.hid h2
      replace h3 := Lib.hid h3
      replace h4 := Lib.hid h4
      replace h5 := Lib.hid h5
      replace h6 := Lib.hid h6
      replace h7 := Lib.hid h7
      replace h8 := Lib.hid h8
      replace h9 := Lib.hid h9
      replace h10 := Lib.hid h10
      replace h12 := Lib.hid h12
      replace h13 := Lib.hid h13
      obtain rfl := (h2.out (by simp [hd])).symm
      go_simp
      exact hK.out _ _ ⟨_, _, _, _, _, _, _, _, _, _, _, _, _, _, by ((simp only [putAll, Act.put, List.setIfInBounds_toArray, List.set_cons_zero, List.set_cons_succ]) <;> rfl), h0.out, h1.out, h2.out, (fun _ => rfl), h4.out, h5.out, h6.out, h7.out, h8.out, h9.out, h10.out, h12.out, h13.out, hm⟩
    refine Steps.cons (i := 4) rfl ?_ ?_
    · rintro L a u ⟨x0, x1, x2, x3, x4, x5, x6, x7, x8, x9, x10, x11, x12, x13, rfl, h0, h1, h2, h3, h4, h5, h6, h7, h8, h9, h10, h12, h13, hm⟩ hi hd K hK
      simp only [putAll, Act.put, List.setIfInBounds_toArray, List.set_cons_zero, List.set_cons_succ]
      (try simp [Region.binds] at hd)
      replace h0 := Lib.hid h0
      replace h1 := Lib.hid h1
      replace h2 := Lib.hid h2
      replace h3 := Lib.hid h3
      replace h4 := Lib.hid h4
      replace h5 := Lib.hid h5
      replace h6 := Lib.hid h6
      replace h7 := Lib.hid h7
      replace h8 := Lib.hid h8
      replace h9 := Lib.hid h9
      replace h10 := Lib.hid h10
      replace h12 := Lib.hid h12
      replace h13 := Lib.hid h13
      obtain rfl := (h3.out (by simp [hd])).symm
      have hf : L 11 = false := by
        cases h' : L 11 with
        | false => rfl
        | true => rw [(hm.1 h').1] at hi; cases hi
      have c2 : u.cell? ⟨g, 2, none⟩ = some pv := by
          rcases hm.2 with ⟨_, _, _, rfl⟩ | ⟨_, _, _, rfl⟩ | ⟨h, _⟩ | ⟨h, _⟩
          · exact A3.out.blk.drew.cell 2
          · exact (A3.out.blk.drew.later ((Below.refl _ _).alloc (Nat.le_refl _) _)).cell 2
          · rw [hf] at h; cases h
          · rw [hf] at h; cases h
      go_simp
      exact hK.out _ _ ⟨_, _, _, _, _, _, _, _, _, _, _, _, _, _, by ((simp only [putAll, Act.put, List.setIfInBounds_toArray, List.set_cons_zero, List.set_cons_succ]) <;> rfl), h0.out, h1.out, h2.out, h3.out, (fun _ => rfl), h5.out, h6.out, h7.out, h8.out, h9.out, h10.out, h12.out, h13.out, ⟨(fun h => ⟨rfl, (hm.1 h).2⟩), hm.2⟩⟩
    refine Steps.cons (i := 5) rfl ?_ ?_
    · rintro L a u ⟨x0, x1, x2, x3, x4, x5, x6, x7, x8, x9, x10, x11, x12, x13, rfl, h0, h1, h2, h3, h4, h5, h6, h7, h8, h9, h10, h12, h13, hm⟩ hi hd K hK
      simp only [putAll, Act.put, List.setIfInBounds_toArray, List.set_cons_zero, List.set_cons_succ]
      (try simp [Region.binds] at hd)
      replace h0 := Lib.hid h0
      replace h1 := Lib.hid h1
      replace h2 := Lib.hid h2
      replace h3 := Lib.hid h3
      replace h4 := Lib.hid h4
      replace h5 := Lib.hid h5
      replace h6 := Lib.hid h6
      replace h7 := Lib.hid h7
      replace h8 := Lib.hid h8
      replace h9 := Lib.hid h9
      replace h10 := Lib.hid h10
      replace h12 := Lib.hid h12
      replace h13 := Lib.hid h13
      have cq2 : u.cell? ⟨q2, 0, none⟩ = some (.int .i64 (k : Int)) := (B3.out.n.drew.st hm.2 npq2 ngq2).cell 0
      go_simp
      exact hK.out _ _ ⟨_, _, _, _, _, _, _, _, _, _, _, _, _, _, by ((simp only [putAll, Act.put, List.setIfInBounds_toArray, List.set_cons_zero, List.set_cons_succ]) <;> rfl), h0.out, h1.out, h2.out, h3.out, h4.out, (fun _ => rfl), h6.out, h7.out, h8.out, h9.out, h10.out, h12.out, h13.out, hm⟩
    refine Steps.cons (i := 6) rfl ?_ ?_
    · rintro L a u ⟨x0, x1, x2, x3, x4, x5, x6, x7, x8, x9, x10, x11, x12, x13, rfl, h0, h1, h2, h3, h4, h5, h6, h7, h8, h9, h10, h12, h13, hm⟩ hi hd K hK
      simp only [putAll, Act.put, List.setIfInBounds_toArray, List.set_cons_zero, List.set_cons_succ]
      (try simp [Region.binds] at hd)
      replace h0 := Lib.hid h0
      replace h1 := Lib.hid h1
      replace h2 := Lib.hid h2
      replace h3 := Lib.hid h3
      replace h4 := Lib.hid h4
      replace h5 := Lib.hid h5
      replace h6 := Lib.hid h6
      replace h7 := Lib.hid h7
      replace h8 := Lib.hid h8
      replace h9 := Lib.hid h9
      replace h10 := Lib.hid h10
      replace h12 := Lib.hid h12
      replace h13 := Lib.hid h13
      go_simp
      exact hK.out _ _ ⟨_, _, _, _, _, _, _, _, _, _, _, _, _, _, by ((simp only [putAll, Act.put, List.setIfInBounds_toArray, List.set_cons_zero, List.set_cons_succ]) <;> rfl), h0.out, h1.out, h2.out, h3.out, h4.out, h5.out, (fun _ => rfl), h7.out, h8.out, h9.out, h10.out, h12.out, h13.out, hm⟩
    refine Steps.cons (i := 7) rfl ?_ ?_
    · rintro L a u ⟨x0, x1, x2, x3, x4, x5, x6, x7, x8, x9, x10, x11, x12, x13, rfl, h0, h1, h2, h3, h4, h5, h6, h7, h8, h9, h10, h12, h13, hm⟩ hi hd K hK
      simp only [putAll, Act.put, List.setIfInBounds_toArray, List.set_cons_zero, List.set_cons_succ]
      (try simp [Region.binds] at hd)
      replace h0 := Lib.hid h0
      replace h1 := Lib.hid h1
      replace h2 := Lib.hid h2
      replace h3 := Lib.hid h3
      replace h4 := Lib.hid h4
      replace h5 := Lib.hid h5
      replace h6 := Lib.hid h6
      replace h7 := Lib.hid h7
      replace h8 := Lib.hid h8
      replace h9 := Lib.hid h9
      replace h10 := Lib.hid h10
      replace h12 := Lib.hid h12
      replace h13 := Lib.hid h13
      obtain rfl := (h6.out (by simp [hd])).symm
      go_simp
      exact hK.out _ _ ⟨_, _, _, _, _, _, _, _, _, _, _, _, _, _, by ((simp only [putAll, Act.put, List.setIfInBounds_toArray, List.set_cons_zero, List.set_cons_succ]) <;> rfl), h0.out, h1.out, h2.out, h3.out, h4.out, h5.out, h6.out, (fun _ => rfl), h8.out, h9.out, h10.out, h12.out, h13.out, hm⟩
    refine Steps.cons (i := 8) rfl ?_ ?_
    · rintro L a u ⟨x0, x1, x2, x3, x4, x5, x6, x7, x8, x9, x10, x11, x12, x13, rfl, h0, h1, h2, h3, h4, h5, h6, h7, h8, h9, h10, h12, h13, hm⟩ hi hd K hK
      simp only [putAll, Act.put, List.setIfInBounds_toArray, List.set_cons_zero, List.set_cons_succ]
      (try simp [Region.binds] at hd)
      replace h0 := Lib.hid h0
      replace h1 := Lib.hid h1
      replace h2 := Lib.hid h2
      replace h3 := Lib.hid h3
      replace h4 := Lib.hid h4
      replace h5 := Lib.hid h5
      replace h6 := Lib.hid h6
      replace h7 := Lib.hid h7
      replace h8 := Lib.hid h8
      replace h9 := Lib.hid h9
      replace h10 := Lib.hid h10
      replace h12 := Lib.hid h12
      replace h13 := Lib.hid h13
      obtain rfl := (h7.out (by simp [hd])).symm
      have hr := (A3.out.v.drew.st hm.2 npv nvg).range (k * 64) (sc ps) HR.out
      rw [if_pos (by rfl)]
      refine wp_load_mid TS _ rfl bv (k * 64) rfl (sc ps) _ hr Tryd.underlying68 rfl (by rw [sc_len, HPS.out]; exact infoS) ?_
      exact hK.out _ _ ⟨_, _, _, _, _, _, _, _, _, _, _, _, _, _, by ((simp only [putAll, Act.put, List.setIfInBounds_toArray, List.set_cons_zero, List.set_cons_succ]) <;> rfl), h0.out, h1.out, h2.out, h3.out, h4.out, h5.out, h6.out, h7.out, (fun _ => rfl), h9.out, h10.out, h12.out, h13.out, hm⟩
    refine Steps.cons (i := 9) rfl ?_ ?_
    · rintro L a u ⟨x0, x1, x2, x3, x4, x5, x6, x7, x8, x9, x10, x11, x12, x13, rfl, h0, h1, h2, h3, h4, h5, h6, h7, h8, h9, h10, h12, h13, hm⟩ hi hd K hK
      simp only [putAll, Act.put, List.setIfInBounds_toArray, List.set_cons_zero, List.set_cons_succ]
      (try simp [Region.binds] at hd)
      replace h0 := Lib.hid h0
      replace h1 := Lib.hid h1
      replace h2 := Lib.hid h2
      replace h3 := Lib.hid h3
      replace h4 := Lib.hid h4
      replace h5 := Lib.hid h5
      replace h6 := Lib.hid h6
      replace h7 := Lib.hid h7
      replace h8 := Lib.hid h8
      replace h9 := Lib.hid h9
      replace h10 := Lib.hid h10
      replace h12 := Lib.hid h12
      replace h13 := Lib.hid h13
      obtain rfl := (h5.out (by simp [hd])).symm
      obtain rfl := (h8.out (by simp [hd])).symm
      rw [if_pos (by rfl)]
      refine wp_build2 TW 0 1 _ _ rfl _ _ _ rfl rfl (HBW.out u) ?_
      exact hK.out _ _ ⟨_, _, _, _, _, _, _, _, _, _, _, _, _, _, by ((simp only [putAll, Act.put, List.setIfInBounds_toArray, List.set_cons_zero, List.set_cons_succ]) <;> rfl), h0.out, h1.out, h2.out, h3.out, h4.out, h5.out, h6.out, h7.out, h8.out, (fun _ => rfl), h10.out, h12.out, h13.out, hm⟩
    refine Steps.cons (i := 10) rfl ?_ ?_
    · rintro L a u ⟨x0, x1, x2, x3, x4, x5, x6, x7, x8, x9, x10, x11, x12, x13, rfl, h0, h1, h2, h3, h4, h5, h6, h7, h8, h9, h10, h12, h13, hm⟩ hi hd K hK
      simp only [putAll, Act.put, List.setIfInBounds_toArray, List.set_cons_zero, List.set_cons_succ]
      (try simp [Region.binds] at hd)
      replace h0 := Lib.hid h0
      replace h1 := Lib.hid h1
      replace h2 := Lib.hid h2
      replace h3 := Lib.hid h3
      replace h4 := Lib.hid h4
      replace h5 := Lib.hid h5
      replace h6 := Lib.hid h6
      replace h7 := Lib.hid h7
      replace h8 := Lib.hid h8
      replace h9 := Lib.hid h9
      replace h10 := Lib.hid h10
      replace h12 := Lib.hid h12
      replace h13 := Lib.hid h13
      obtain rfl := (h9.out (by simp [hd])).symm
      have hf : L 11 = false := by
          cases h' : L 11 with
          | false => rfl
          | true => rw [(hm.1 h').2] at hi; cases hi
      have hu : u = W3.drew := by
          rcases hm.2 with ⟨_, _, _, h⟩ | ⟨h, _⟩ | ⟨h, _⟩ | ⟨h, _⟩
          · exact h
          · rw [hi] at h; cases h
          · rw [hf] at h; cases h
          · rw [hf] at h; cases h
      have hz14 : L 14 = false := by
          rcases hm.2 with ⟨_, _, h, _⟩ | ⟨h, _⟩ | ⟨h, _⟩ | ⟨h, _⟩
          · exact h
          · rw [hi] at h; cases h
          · rw [hf] at h; cases h
          · rw [hf] at h; cases h
      subst hu
      rw [if_pos (by rfl)]
      refine wp_buildSlice1 48 1 0 _ rfl _ _ rfl (HBS.out _) ?_
      exact hK.out _ _ ⟨_, _, _, _, _, _, _, _, _, _, _, _, _, _, by ((simp only [putAll, Act.put, List.setIfInBounds_toArray, List.set_cons_zero, List.set_cons_succ]) <;> rfl), h0.out, h1.out, h2.out, h3.out, h4.out, h5.out, h6.out, h7.out, h8.out, h9.out, (fun _ => rfl), h12.out, h13.out, ⟨(fun h => absurd (hf.symm.trans h) (by decide)), .inr (.inl ⟨rfl, hf, hz14, rfl⟩)⟩⟩
    refine Steps.cons (i := 11) rfl ?_ ?_
    · rintro L a u ⟨x0, x1, x2, x3, x4, x5, x6, x7, x8, x9, x10, x11, x12, x13, rfl, h0, h1, h2, h3, h4, h5, h6, h7, h8, h9, h10, h12, h13, hm⟩ hi hd K hK
      simp only [putAll, Act.put, List.setIfInBounds_toArray, List.set_cons_zero, List.set_cons_succ]
      (try simp [Region.binds] at hd)
      replace h0 := Lib.hid h0
      replace h1 := Lib.hid h1
      replace h2 := Lib.hid h2
      replace h3 := Lib.hid h3
      replace h4 := Lib.hid h4
      replace h5 := Lib.hid h5
      replace h6 := Lib.hid h6
      replace h7 := Lib.hid h7
      replace h8 := Lib.hid h8
      replace h9 := Lib.hid h9
      replace h10 := Lib.hid h10
      replace h12 := Lib.hid h12
      replace h13 := Lib.hid h13
      obtain rfl := (h4.out (by simp [hd])).symm
      obtain rfl := (h10.out (by simp [hd])).symm
      have hd4 : L 4 = true := by simp [hd]
      have hd10 : L 10 = true := by simp [hd]
      have hu : u = W3.drew.alloc (.cells (wc (k, ps)).toArray TW) ∧ L 14 = false := by
          rcases hm.2 with ⟨h, _⟩ | ⟨_, _, h14, h⟩ | ⟨h, _⟩ | ⟨h, _⟩
          · rw [hd10] at h; cases h
          · exact ⟨h, h14⟩
          · rw [hi] at h; cases h
          · rw [hi] at h; cases h
      obtain ⟨rfl, hz14⟩ := hu
      obtain ⟨i0, hi0, hz0, hz1, hz2⟩ := info_parts infoW
      rw [if_pos (by rfl)]
      refine wp_append_lies _ _ _ 48 rfl 0 TW i0 _ 65 72 Tryd.underlying48 hi0 hz0 hz1 hz2 (by decide) (by decide) pv x.P.length (flatP x.P) rfl ((own_later' A3.out.p ((Below.refl _ _).drew)).alloc _) ⟨W3.heap.size, 0, none⟩ 1 1 (wc (k, ps)) rfl (by simp [wc, sc_len, HPS.out]) ?_ wc_one (by decide) (by unfold maxLen; omega) (by omega) (Nat.zero_le _) _ rfl ?_
      · (intro j v hv; rw [Addr.add_mid, Nat.zero_add]; exact ((Rw.new W3.drew (wc (k, ps)) TW).cell j).trans hv)
      intro g9 cap9 u9 hown9 hgrow9 hat9 hlt9
      exact hK.out _ _ ⟨_, _, _, _, _, _, _, _, _, _, _, _, _, _, by ((simp only [putAll, Act.put, List.setIfInBounds_toArray, List.set_cons_zero, List.set_cons_succ]) <;> rfl), h0.out, h1.out, h2.out, h3.out, h4.out, h5.out, h6.out, h7.out, h8.out, h9.out, h10.out, h12.out, h13.out, ⟨(fun _ => ⟨hd4, hd10⟩), .inr (.inr (.inl ⟨rfl, hz14, hown9, hgrow9, (by rcases hat9 with h | h; exact .inl h; exact .inr (by rw [h]; simp [Value.ownBlock])), _, _, rfl⟩))⟩⟩
    refine Steps.cons (i := 12) rfl ?_ ?_
    · rintro L a u ⟨x0, x1, x2, x3, x4, x5, x6, x7, x8, x9, x10, x11, x12, x13, rfl, h0, h1, h2, h3, h4, h5, h6, h7, h8, h9, h10, h12, h13, hm⟩ hi hd K hK
      simp only [putAll, Act.put, List.setIfInBounds_toArray, List.set_cons_zero, List.set_cons_succ]
      (try simp [Region.binds] at hd)
      replace h0 := Lib.hid h0
      replace h1 := Lib.hid h1
      replace h2 := Lib.hid h2
      replace h3 := Lib.hid h3
      replace h4 := Lib.hid h4
      replace h5 := Lib.hid h5
      replace h6 := Lib.hid h6
      replace h7 := Lib.hid h7
      replace h8 := Lib.hid h8
      replace h9 := Lib.hid h9
      replace h10 := Lib.hid h10
      replace h12 := Lib.hid h12
      replace h13 := Lib.hid h13
      obtain rfl := (h0.out (by simp [hd])).symm
      go_simp
      exact hK.out _ _ ⟨_, _, _, _, _, _, _, _, _, _, _, _, _, _, by ((simp only [putAll, Act.put, List.setIfInBounds_toArray, List.set_cons_zero, List.set_cons_succ]) <;> rfl), h0.out, h1.out, h2.out, h3.out, h4.out, h5.out, h6.out, h7.out, h8.out, h9.out, h10.out, (fun _ => rfl), h13.out, hm⟩
    refine Steps.cons (i := 13) rfl ?_ ?_
    · rintro L a u ⟨x0, x1, x2, x3, x4, x5, x6, x7, x8, x9, x10, x11, x12, x13, rfl, h0, h1, h2, h3, h4, h5, h6, h7, h8, h9, h10, h12, h13, hm⟩ hi hd K hK
      simp only [putAll, Act.put, List.setIfInBounds_toArray, List.set_cons_zero, List.set_cons_succ]
      (try simp [Region.binds] at hd)
      replace h0 := Lib.hid h0
      replace h1 := Lib.hid h1
      replace h2 := Lib.hid h2
      replace h3 := Lib.hid h3
      replace h4 := Lib.hid h4
      replace h5 := Lib.hid h5
      replace h6 := Lib.hid h6
      replace h7 := Lib.hid h7
      replace h8 := Lib.hid h8
      replace h9 := Lib.hid h9
      replace h10 := Lib.hid h10
      replace h12 := Lib.hid h12
      replace h13 := Lib.hid h13
      obtain rfl := (h12.out (by simp [hd])).symm
      go_simp
      exact hK.out _ _ ⟨_, _, _, _, _, _, _, _, _, _, _, _, _, _, by ((simp only [putAll, Act.put, List.setIfInBounds_toArray, List.set_cons_zero, List.set_cons_succ]) <;> rfl), h0.out, h1.out, h2.out, h3.out, h4.out, h5.out, h6.out, h7.out, h8.out, h9.out, h10.out, h12.out, (fun _ => rfl), hm⟩
    refine Steps.cons (i := 14) rfl ?_ ?_
    · rintro L a u ⟨x0, x1, x2, x3, x4, x5, x6, x7, x8, x9, x10, x11, x12, x13, rfl, h0, h1, h2, h3, h4, h5, h6, h7, h8, h9, h10, h12, h13, hm⟩ hi hd K hK
      simp only [putAll, Act.put, List.setIfInBounds_toArray, List.set_cons_zero, List.set_cons_succ]
      (try simp [Region.binds] at hd)
      replace h0 := Lib.hid h0
      replace h1 := Lib.hid h1
      replace h2 := Lib.hid h2
      replace h3 := Lib.hid h3
      replace h4 := Lib.hid h4
      replace h5 := Lib.hid h5
      replace h6 := Lib.hid h6
      replace h7 := Lib.hid h7
      replace h8 := Lib.hid h8
      replace h9 := Lib.hid h9
      replace h10 := Lib.hid h10
      replace h12 := Lib.hid h12
      replace h13 := Lib.hid h13
      obtain rfl := (h13.out (by simp [hd])).symm
      have hd11 : L 11 = true := by simp [hd]
      have hA9 : App W3.drew pv x.P.length (flatP x.P) (wc (k, ps)) x11 u := by
          rcases hm.2 with ⟨_, h, _⟩ | ⟨_, h, _⟩ | ⟨_, _, h⟩ | ⟨_, h, _⟩
          · rw [hd11] at h; cases h
          · rw [hd11] at h; cases h
          · exact h
          · rw [hi] at h; cases h
      obtain ⟨a9, cap9, rfl⟩ := hA9.2.2.2
      have r9 := (A3.out.blk.drew.app hA9 npg)
      have c2 : u.cell? ⟨g, 2, none⟩ = some pv := r9.cell 2
      have f2 : u.frozen? ⟨g, 2, none⟩ = false := r9.frozen 2
      go_simp
      exact hK.out _ _ ⟨_, _, _, _, _, _, _, _, _, _, _, _, _, _, by ((simp only [putAll, Act.put, List.setIfInBounds_toArray, List.set_cons_zero, List.set_cons_succ]) <;> rfl), h0.out, h1.out, h2.out, h3.out, h4.out, h5.out, h6.out, h7.out, h8.out, h9.out, h10.out, h12.out, h13.out, ⟨hm.1, .inr (.inr (.inr ⟨hd11, rfl, u, hA9, rfl⟩))⟩⟩
    · exact Steps.nil
    · rintro L a u ⟨x0, x1, x2, x3, x4, x5, x6, x7, x8, x9, x10, x11, x12, x13, rfl, h0, h1, h2, h3, h4, h5, h6, h7, h8, h9, h10, h12, h13, hm⟩ hall
      rcases hm.2 with ⟨h, _⟩ | ⟨_, h, _⟩ | ⟨_, h, _⟩ | ⟨_, _, u9, hA9, rfl⟩
      · rw [hall 10 (by decide)] at h; cases h
      · rw [hall 11 (by decide)] at h; cases h
      · rw [hall 14 (by decide)] at h; cases h
      simp only [putAll, Act.put, List.setIfInBounds_toArray, List.set_cons_zero, List.set_cons_succ]
      go_wp2_with fail
      go_meet
      exact ⟨x11, u9, hA9, rfl⟩
  obtain ⟨v', u', hApp, rfl⟩ := hcut
  have HAp := Lib.hid hApp
  clear hApp
  go_wp2_with fail
  go_ret
  have h5 := A3.out.drew.appended HAp.out
  refine ⟨rfl, v', fv, ?_, ?_, ?_⟩
  · have hVe : x.V.set k ps = (Dr.mk x.D (x.P ++ [(k, ps)]) F).V := (puts_snoc x.P k ps x.D).symm
    rw [hVe] at h5
    exact h5
  · have h6 := K3.out.drew.alloc (.cells (wc (k, ps)).toArray TW)
    exact (h6.grown HAp.out.2.1 (fun j hj => .inl (.inr (.inr (.inr (.inl hj)))))).setCell g 2 _ (.inl (.inl rfl))
  · rintro j (rfl | rfl | rfl | hj | hj)
    · exact .inl (.inl rfl)
    · exact .inl (.inr (.inl rfl))
    · exact .inl (.inr (.inr (.inl rfl)))
    · rcases HAp.out.2.2.1 with h | h
      · exact .inl (.inr (.inr (.inr (.inl (h.trans hj)))))
      · rw [h] at hj
        injection hj with hj
        have := K3.out.size
        have hs3 : W3.drew.heap.size = W3.heap.size := rfl
        exact .inr (by omega)
    · exact .inl (.inr (.inr (.inr (.inr hj))))
theorem Left.after {g bv bd : Nat} {pv fv : Value} {y : Dr} {w W w' : World} (h : Left g bv bd pv fv y W w') (hb : Below w.heap.size w W) : Left g bv bd pv fv y w w' := by
  obtain ⟨pv', fv', h1, h2, h3⟩ := h
  exact ⟨pv', fv', h1, (Keeps.of _ hb).then h2 fun j hj => .inl hj, fun k hk => (h3 k hk).imp id fun h => Nat.le_trans hb.size h⟩
set_option maxHeartbeats 1600000 in
theorem at_out (g bv bd : Nat) (pv fv f : Value) (x : Dr) (n : Int) (w : World) (hA : At w g bv bd pv fv x) (hx : x.Ok) (hn : n < 0 ∨ (x.D.length : Int) ≤ n) : Calls Tryd.prog 43 #[.pointer (some ⟨g, 0, Option.none⟩), .int .i64 n, f] w fun e w' => e = .returned (.int .i64 2) ∧ w = w' := by
  have K := Lib.hid (is_c g bv bd pv fv x w hA hx)
  have c0 := hA.c0
  have hn' : n < 0 ∨ (0 ≤ n ∧ (x.n : Int) ≤ n) := by
    rcases hn with h | h
    · exact .inl h
    · by_cases h0 : n < 0
      · exact .inl h0
      · exact .inr ⟨by omega, h⟩
  clear hA hx hn
  rcases hn' with h | ⟨h0, h⟩
  all_goals
    go_enter Tryd.func43, Tryd.ntmps43
    go_wp2_with fail
    refine K.out.mono ?_
    rintro e w' ⟨rfl, rfl⟩
    go_wp2_with fail
    go_ret
    exact ⟨rfl, rfl⟩
set_option maxHeartbeats 1600000 in
theorem at_write (q0 q1 q2 : Nat) (g bv bd : Nat) (pv fv : Value) (x : Dr) (k : Nat) (z : Int) (R : World → Prop) (w : World) (hA : At w g bv bd pv fv x) (hx : x.Ok) (hk : k < x.D.length)
    (hc : Calls Tryd.prog 67 #[.pointer (some ⟨bv, k * 64, Option.none⟩), .pointer (some ⟨q0, 0, Option.none⟩), .pointer (some ⟨q1, 0, Option.none⟩), .pointer (some ⟨q2, 0, Option.none⟩)] w fun e w' => e = .returned (.int .i64 z) ∧ R w') : Calls Tryd.prog 43 #[.pointer (some ⟨g, 0, Option.none⟩), .int .i64 (k : Int), .func (.func 67) #[] #[.pointer (some ⟨q0, 0, Option.none⟩), .pointer (some ⟨q1, 0, Option.none⟩), .pointer (some ⟨q2, 0, Option.none⟩)]] w fun e w' => e = .returned (.int .i64 z) ∧ R w' := by
  have K := Lib.hid (is_c g bv bd pv fv x w hA hx)
  have HC := Lib.hid hc
  have c0 := hA.c0
  have h0 : (0 : Int) ≤ (k : Int) := by omega
  have h1 : k < x.n := hk
  have h2 := hx.n2
  have h3 : x.n ≤ 4096 := h2
  clear hA hx hk hc h2
  go_enter Tryd.func43, Tryd.ntmps43
  go_wp2_with fail
  refine K.out.mono ?_
  rintro e w' ⟨rfl, rfl⟩
  go_wp2_with fail
  refine HC.out.mono ?_
  rintro e w' ⟨rfl, hr⟩
  go_wp2_with fail
  go_ret
  exact ⟨rfl, hr⟩
def WrRes (x : Dr) (n : Int) (s : ByteArray) (g bv bd : Nat) (pv fv : Value) (w : World) (e : Ending) (w' : World) : Prop := e = .returned (.int .i64 (x.write n s.data.toList).2) ∧ Left g bv bd pv fv (x.write n s.data.toList).1 w w'
theorem bx_new (w : World) (s : ByteArray) (g : Nat) (k : Int) : Bx (((w.alloc (.cells #[.pointer (some ⟨g, 0, none⟩)] 23)).alloc (.cells #[.int .i64 k] 3)).alloc (.cells #[.string s] 9)) (w.heap.size + 2) w.heap.size (w.heap.size + 1) s g k := by
  have hb : ∀ (u : World) (o : Obj), Below u.heap.size u (u.alloc o) := fun u o => (Below.refl _ u).alloc (Nat.le_refl _) o
  have h1 := Rw.new w [.pointer (some ⟨g, 0, none⟩)] 23
  have h2 := Rw.new (w.alloc (.cells #[.pointer (some ⟨g, 0, none⟩)] 23)) [.int .i64 k] 3
  have h3 := Rw.new ((w.alloc (.cells #[.pointer (some ⟨g, 0, none⟩)] 23)).alloc (.cells #[.int .i64 k] 3)) [.string s] 9
  rw [World.size_alloc] at h2
  rw [World.size_alloc, World.size_alloc] at h3
  exact ⟨h3, (h1.later (hb _ _)).later (hb _ _), h2.later (hb _ _)⟩
/-- Write of a drive. -/
theorem write_c (g bv bd : Nat) (pv fv : Value) (x : Dr) (n : Int) (s : ByteArray) (w : World) (hA : At w g bv bd pv fv x) (hx : x.Ok) (hP : x.P.length ≤ 100000) (hs : s.size ≤ 9223372036854775807) : Calls Tryd.prog 55 #[.pointer (some ⟨g, 0, Option.none⟩), .int .i64 n, .string s] w (WrRes x n s g bv bd pv fv w) := by
  have hb : Below w.heap.size w (((w.alloc (.cells #[.pointer (some ⟨g, 0, none⟩)] 23)).alloc (.cells #[.int .i64 n] 3)).alloc (.cells #[.string s] 9)) := (((Below.refl _ w).alloc (Nat.le_refl _) _).alloc (by simp) _).alloc (by simp; omega) _
  have hB := bx_new w s g n
  have hA2 := hA.later hb
  have hlt := hA.lt
  have key : ∀ (z : Int) (R : World → Prop), (Calls Tryd.prog 43 #[.pointer (some ⟨g, 0, Option.none⟩), .int .i64 n, .func (.func 67) #[] #[.pointer (some ⟨(w.heap.size + 2), 0, Option.none⟩), .pointer (some ⟨w.heap.size, 0, Option.none⟩), .pointer (some ⟨(w.heap.size + 1), 0, Option.none⟩)]] (((w.alloc (.cells #[.pointer (some ⟨g, 0, none⟩)] 23)).alloc (.cells #[.int .i64 n] 3)).alloc (.cells #[.string s] 9)) fun e w' => e = .returned (.int .i64 z) ∧ R w') →
      Calls Tryd.prog 55 #[.pointer (some ⟨g, 0, Option.none⟩), .int .i64 n, .string s] w fun e w' => e = .returned (.int .i64 z) ∧ R w' := by
    intro z R hc
    have HC := Lib.hid hc
    clear hc hb hB hA2 hlt hA hx
    go_enter Tryd.func55, Tryd.ntmps55
    go_wp2_with fail
    refine HC.out.mono ?_
    rintro e w' ⟨rfl, hr⟩
    go_wp2_with fail
    go_ret
    exact ⟨rfl, hr⟩
  unfold WrRes Dr.write
  generalize hW : (((w.alloc (.cells #[.pointer (some ⟨g, 0, none⟩)] 23)).alloc (.cells #[.int .i64 n] 3)).alloc (.cells #[.string s] 9)) = W at *
  have hss : s.data.toList.length = s.size := by rw [← Lib.size_eq]
  have same : Left g bv bd pv fv x w W := Left.same hA hb
  by_cases hn : n < 0 ∨ (x.D.length : Int) ≤ n
  · rw [if_pos hn]
    exact key 2 (fun w' => Left g bv bd pv fv x w w') ((at_out g bv bd pv fv _ x n W hA2 hx hn).mono fun e w' h => ⟨h.1, h.2 ▸ same⟩)
  · rw [if_neg hn]
    obtain ⟨k, rfl⟩ := Int.eq_ofNat_of_zero_le (show 0 ≤ n by omega)
    have hk : k < x.D.length := by omega
    by_cases hs64 : 64 < s.data.toList.length
    · rw [if_pos hs64]
      exact key 3 (fun w' => Left g bv bd pv fv x w w') (at_write _ _ _ g bv bd pv fv x k 3 _ W hA2 hx hk ((w1_long _ _ _ s g (k : Int) _ W hB (by omega)).mono fun e w' h => ⟨h.1, h.2 ▸ same⟩))
    · rw [if_neg hs64]
      have n0 : ∀ j, w.heap.size ≤ j → ¬ Bs g bv bd pv fv j := fun j hj h => by have := hlt j h; omega
      cases hF : burn x.F with
      | none => exact key 30 (fun w' => Left g bv bd pv fv x w w') (at_write _ _ _ g bv bd pv fv x k 30 _ W hA2 hx hk ((w1_down _ _ _ s g bv bd pv fv x (k : Int) _ W hB hA2 (by omega) hF).mono fun e w' h => ⟨h.1, h.2 ▸ same⟩))
      | some F => exact key 0 (fun w' => Left g bv bd pv fv ⟨x.D, x.P ++ [(k, pad s.data.toList)], F⟩ w w') (at_write _ _ _ g bv bd pv fv x k 0 _ W hA2 hx hk ((w1_ok _ _ _ s g bv bd pv fv x k F W hB hA2 hx hP hk (by omega) hF (n0 _ (by omega)) (n0 _ (by omega)) (n0 _ (by omega))).mono fun e w' h => ⟨h.1, h.2.after hb⟩))
end Go.Proofs.YtjlncjabiofklaaDoor.Dv
