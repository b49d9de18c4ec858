/- Package sheaf: Get. -/
import Derived.Test.YtjlncjabiofklaaDoorSfBuild
namespace Go.Proofs.YtjlncjabiofklaaDoor.Shf
open Go.RowKit Tal
theorem _root_.Go.Proofs.YtjlncjabiofklaaDoor.Shf.Bat.later {T e : TypeId} {B b : Nat} {p : Value} {bs : List Value} {w w' : World} (h : Lib.BuilderAt T e B b p bs w) (hb : Below w.heap.size w w') : Lib.BuilderAt T e B b p bs w' := by
  have hlt := h.lt
  obtain ⟨h1, v, h2, h3, h4⟩ := h
  exact ⟨h1, v, (hb.block b hlt).trans h2, Rf.own_later h3 hb, h4⟩
theorem Bat.set {T e : TypeId} {B b b0 : Nat} {p : Value} {bs : List Value} {w : World} (h : Lib.BuilderAt T e B b p bs w) (h0 : b0 < B) (v : Value) : Lib.BuilderAt T e B b p bs (w.setCell ⟨b0, 0, none⟩ v) := by
  obtain ⟨h1, u, h2, h3, h4⟩ := h
  exact ⟨h1, u, (Below.heap_setCell _ _ _ _ (show b ≠ b0 by omega)).trans h2, Rf.own_set h3 h0 v, h4⟩
def IsB (bb : Nat) (A : List UInt8) (w : World) : Prop := Lib.IsBuilder 109 5 bb bb (Lib.byteCells A) w
theorem IsB.later {bb : Nat} {A : List UInt8} {w w' : World} (h : IsB bb A w) (hb : Below w.heap.size w w') : IsB bb A w' := by
  rcases h with h | h
  · exact .inl (Bat.later h hb)
  · exact .inr (Bat.later h hb)
theorem IsB.set {bb b0 : Nat} {A : List UInt8} {w : World} (h : IsB bb A w) (h0 : b0 < bb) (v : Value) : IsB bb A (w.setCell ⟨b0, 0, none⟩ v) := by
  rcases h with h | h
  · exact .inl (Bat.set h h0 v)
  · exact .inr (Bat.set h h0 v)
theorem isB_new (w : World) : IsB w.heap.size [] (w.alloc (.cells #[.pointer none, .slice none 0 0] 109)) := Lib.fresh_isBuilder _ _ w
theorem IsB.lt {bb : Nat} {A : List UInt8} {w : World} (h : IsB bb A w) : bb < w.heap.size := by
  rcases h with h | h <;> exact h.lt
theorem isB_write (bb : Nat) (A c : List UInt8) (w : World) (h : IsB bb A w) (hlen : A.length + c.length ≤ 1000000) :
    Calls Tryd.prog 61 #[.pointer (some ⟨bb, 0, none⟩), .string ⟨c.toArray⟩] w fun e w' => e = .returned (.tuple #[.int .i64 (c.length : Int), .nilIface]) ∧ IsB bb (A ++ c) w' ∧ Below bb w w' := by
  refine (bwrite bb bb (Lib.byteCells A) ⟨c.toArray⟩ w h ?_ (Nat.le_of_lt h.lt)).mono ?_
  · rw [Lib.byteCells_length]; show A.length + c.length ≤ _; omega
  · rintro e w' ⟨rfl, h1, h2⟩
    refine ⟨rfl, .inr ?_, h2⟩
    have e : Lib.byteCells (A ++ c) = Lib.byteCells A ++ Lib.strCells ⟨c.toArray⟩ := by simp [Lib.byteCells, Lib.strCells]
    rw [e]; exact h1
set_option maxHeartbeats 400000 in
theorem res_get {W : World} {tmps : Array Value} {a : Nat} {v : Value} (h2 : tmps[2]?.getD undef = .pointer (some ⟨a, 0, none⟩)) (c2 : W.cell? ⟨a, 0, none⟩ = some v) :
    (results Tryd.f46 tmps).run Tryd.prog W = .ok (.tuple #[v, tmps.getD 3 undef, tmps.getD 4 undef, tmps.getD 5 undef]) W := by
  simp [results, Tryd.results46, h2, go_sem, c2]
theorem tnum_none (c : List UInt8) (w : World) (hl : c.length ≤ 100000) (h : Ta.take 0 c = none) :
    Calls Tryd.prog 48 #[.string ⟨c.toArray⟩] w fun e w' => e = .returned (.tuple #[.int .u64 0, .string ⟨#[]⟩, .bool false]) ∧ Below w.heap.size w w' := by
  have := takeNum_c ⟨c.toArray⟩ w (by show c.length ≤ _; unfold maxLen; omega)
  have e : Ta.take 0 (ByteArray.mk c.toArray).data.toList = none := h
  rw [e] at this
  exact this
theorem tnum_some (c r : List UInt8) (m : Nat) (w : World) (hl : c.length ≤ 100000) (h : Ta.take 0 c = some (m, r)) :
    Calls Tryd.prog 48 #[.string ⟨c.toArray⟩] w fun e w' => e = .returned (.tuple #[.int .u64 m, .string ⟨r.toArray⟩, .bool true]) ∧ Below w.heap.size w w' := by
  have := takeNum_c ⟨c.toArray⟩ w (by show c.length ≤ _; unfold maxLen; omega)
  have e : Ta.take 0 (ByteArray.mk c.toArray).data.toList = some (m, r) := h
  rw [e] at this
  exact this
theorem ptext_none (A : List UInt8) (w : World) (hl : A.length ≤ 100000) (h : Ta.takeText A = none) :
    Calls Tryd.prog 50 #[.string ⟨A.toArray⟩] w fun e w' => e = .returned (.tuple #[.string ⟨#[]⟩, .string ⟨#[]⟩, .bool false]) ∧ Below w.heap.size w w' := by
  have := takeText_c ⟨A.toArray⟩ w (by show A.length ≤ _; unfold maxLen; omega)
  have e : Ta.takeText (ByteArray.mk A.toArray).data.toList = none := h
  rw [e] at this
  exact this
theorem ptext_some (A s r : List UInt8) (w : World) (hl : A.length ≤ 100000) (h : Ta.takeText A = some (s, r)) :
    Calls Tryd.prog 50 #[.string ⟨A.toArray⟩] w fun e w' => e = .returned (.tuple #[.string ⟨s.toArray⟩, .string ⟨r.toArray⟩, .bool true]) ∧ Below w.heap.size w w' := by
  have := takeText_c ⟨A.toArray⟩ w (by show A.length ≤ _; unfold maxLen; omega)
  have e : Ta.takeText (ByteArray.mk A.toArray).data.toList = some (s, r) := h
  rw [e] at this
  exact this
theorem dw_nil (p : UInt8 → Bool) : ∀ l : List UInt8, l.dropWhile p = [] ↔ ∀ x ∈ l, p x = true := by
  intro l
  induction l with
  | nil => simp
  | cons a l ih =>
    rw [List.dropWhile_cons]
    by_cases h : p a = true
    · rw [if_pos h, ih]; simp [h]
    · rw [if_neg h]; simp [h]
theorem trim_yes (r : List UInt8) (h : r.all (· == 0) = true) : Lib.trimB r 0 = [] := by
  have e : r.reverse.dropWhile (· == 0) = [] := by
    rw [dw_nil]
    intro x hx
    exact List.all_eq_true.1 h x (by simpa using hx)
  unfold Lib.trimB Lib.trimLeftB Lib.trimRightB
  rw [e]
  rfl
theorem trim_no (r : List UInt8) (h : r.all (· == 0) = false) : Lib.trimB r 0 ≠ [] := by
  intro h0
  unfold Lib.trimB Lib.trimLeftB Lib.trimRightB at h0
  rw [dw_nil] at h0
  have hD : r.reverse.dropWhile (· == 0) = [] := by
    cases hd : r.reverse.dropWhile (· == 0) with
    | nil => rfl
    | cons x t =>
      exfalso
      have h1 := h0 x (by rw [hd]; simp)
      have h2 : ¬ (r.reverse.dropWhile (· == 0)) = [] := by rw [hd]; simp
      have h3 := List.head_dropWhile_not (· == (0 : UInt8)) (l := r.reverse) h2
      simp only [hd, List.head_cons] at h3
      rw [h1] at h3
      exact Bool.noConfusion h3
  rw [dw_nil] at hD
  have : r.all (· == 0) = true := List.all_eq_true.2 fun x hx => hD x (by simpa using hx)
  rw [this] at h
  exact Bool.noConfusion h
theorem btrim_yes (r : List UInt8) (w : World) (hl : r.length ≤ 100000) (h : r.all (· == 0) = true) :
    Calls Tryd.prog 63 #[.string ⟨r.toArray⟩, .string ⟨#[0]⟩] w fun e w' => e = .returned (.string ⟨#[]⟩) ∧ Below w.heap.size w w' := by
  refine (Tryd.strings_Trim_one ⟨r.toArray⟩ 0 (by decide) w (by show r.length ≤ _; omega)).mono ?_
  rintro e w' ⟨rfl, hw⟩
  refine ⟨?_, by rcases hw with rfl | rfl; exact Below.refl _ _; exact (Below.refl _ _).drew⟩
  have e : Lib.trimB (ByteArray.mk r.toArray).data.toList 0 = [] := trim_yes r h
  rw [e]
theorem btrim_no (r : List UInt8) (w : World) (hl : r.length ≤ 100000) :
    Calls Tryd.prog 63 #[.string ⟨r.toArray⟩, .string ⟨#[0]⟩] w fun e w' => e = .returned (.string ⟨(Lib.trimB r 0).toArray⟩) ∧ Below w.heap.size w w' := by
  refine (Tryd.strings_Trim_one ⟨r.toArray⟩ 0 (by decide) w (by show r.length ≤ _; omega)).mono ?_
  rintro e w' ⟨rfl, hw⟩
  exact ⟨rfl, by rcases hw with rfl | rfl; exact Below.refl _ _; exact (Below.refl _ _).drew⟩
theorem bstring (bb : Nat) (A : List UInt8) (w : World) (h : IsB bb A w) :
    Calls Tryd.prog 62 #[.pointer (some ⟨bb, 0, none⟩)] w fun e w' => e = .returned (.string ⟨A.toArray⟩) ∧ Below bb w w' :=
  Tryd.Builder_String_any bb bb A w h (Nat.le_of_lt h.lt)
theorem flat_le (n : Nat) (P : List (List UInt8)) (h : ∀ y ∈ P, Sf.isOf n y = true) : (P.map Lf.mid).flatten.length = 48 * P.length := by
  rw [Sf.flat_len]
  · simp
  · intro c hc
    obtain ⟨y, hy, rfl⟩ := List.mem_map.1 hc
    exact (Sf.isOf_leaf (h y hy)).1
theorem flat_next {G : List (List UInt8)} {k : Nat} (h : k < G.length) : ((G.take (k + 1)).map Lf.mid).flatten = ((G.take k).map Lf.mid).flatten ++ Lf.mid G[k] := by
  rw [List.take_succ_eq_append_getElem h, List.map_append, List.flatten_append, List.map_cons, List.map_nil, List.flatten_cons, List.flatten_nil, List.append_nil]
set_option maxRecDepth 100000 in
set_option maxHeartbeats 4000000 in
theorem sheafget (w : World) (a : Option Addr) (cap : Nat) (L : List ByteArray) (hL : Strs w a L) (hl : L.length ≤ 1000) (hcap : L.length ≤ cap) :
    Calls Tryd.prog 46 #[.slice a L.length cap] w (SGet (Sf.pget (lists L)) w) := by
  have HLS := Lib.hid hL
  have HLL := Lib.hid (lists_len L)
  obtain ⟨G, hG⟩ : ∃ G, lists L = G := ⟨_, rfl⟩
  have HG := Lib.hid hG
  have HGG := Lib.hid (fun k (h : k < L.length) => (show ∃ hk : k < G.length, G[k]'hk = L[k].data.toList by subst hG; exact ⟨by rw [lists_len]; exact h, lists_get L k h⟩))
  rw [hG] at HLL ⊢
  clear hL hG
  by_cases h0 : L.length = 0
  · have hz : ((L.length : Int) == 0) = true := beq_iff_eq.2 (by omega)
    have HP := Lib.hid (show Sf.pget G = none by have := HLL.out; rw [h0] at this; rw [List.eq_nil_of_length_eq_zero this]; rfl)
    go_enter Tryd.func46, Tryd.ntmps46
    go_wp2_with fail
    refine bodyPost_ret (res_get rfl (v := .int .u64 0) (by simp [go_sem])) rfl ?_
    exact sget_none HP.out rfl ((Below.refl _ _).alloc (Nat.le_refl _) _)
  · have hz : ((L.length : Int) == 0) = false := beq_eq_false_iff_ne.2 (by omega)
    obtain ⟨b, off, rfl, hbl, hc⟩ := HLS.out 0 (by omega)
    obtain ⟨hkG, hGk⟩ := HGG.out 0 (by omega)
    obtain ⟨s0, hs0⟩ : ∃ s, L[0] = s := ⟨_, rfl⟩
    rw [hs0] at hc hGk
    rw [Nat.add_zero] at hc
    have hG0 : ∃ t, G = s0.data.toList :: t := by
      cases G with
      | nil => simp at hkG
      | cons x t => exact ⟨t, by rw [← hGk]; rfl⟩
    have HG0 := Lib.hid hG0
    obtain ⟨W1, hW1⟩ : ∃ W1, (w.alloc (.cells #[.int .u64 0] 32)).alloc (.cells #[.pointer (some ⟨w.heap.size, 0, none⟩)] 105) = W1 := ⟨_, rfl⟩
    have KA := Lib.hid (show Calls Tryd.prog 59 #[.pointer (some ⟨w.heap.size, 0, none⟩)] (w.alloc (.cells #[.int .u64 0] 32)) (fun e w' => e = .returned (.func (.func 68) #[] #[.pointer (some ⟨w.heap.size + 1, 0, none⟩)]) ∧ W1 = w') by
      have := alike_c w.heap.size (w.alloc (.cells #[.int .u64 0] 32))
      rw [World.size_alloc, hW1] at this
      exact this.mono fun e w' h => ⟨h.1, h.2.symm⟩)
    have hx : Ak (w.heap.size + 1) w.heap.size 0 W1 := by
      rw [← hW1]
      refine ⟨?_, ?_, ?_, by simp, by simp; omega, by omega⟩ <;> simp [go_sem]
    have HX := Lib.hid hx
    have hb0 : Below w.heap.size w W1 := by rw [← hW1]; exact ((Below.refl _ _).alloc (Nat.le_refl _) _).alloc (by simp) _
    have HB0 := Lib.hid hb0
    have q0 : (0 : Int) < (L.length : Int) := by omega
    have hc1 : W1.cell? ⟨b, off, none⟩ = some (.string s0) := (hb0.cell (p := ⟨b, off, none⟩) (by simpa using hbl)).trans hc
    have l1 := hx.l1
    clear hG0 hx hb0 hs0 hGk hkG hc hW1
    cases hq : Lf.get s0.data.toList with
    | none =>
      have KC := Lib.hid (fun w' => ak_none s0 (w.heap.size + 1) w' hq)
      have KN := Lib.hid (fun w => tnum_none [] w (by simp) rfl)
      have HP := Lib.hid (show Sf.pget G = none by obtain ⟨t, ht⟩ := HG0.out; rw [ht]; unfold Sf.pget; simp only [hq])
      clear hq
      go_enter Tryd.func46, Tryd.ntmps46
      go_wp2_with fail
      refine KA.out.mono ?_
      rintro e w' ⟨rfl, rfl⟩
      go_wp2_with fail
      refine (KC.out _).mono ?_
      rintro e w2 ⟨rfl, b2⟩
      have X2 := HX.out.later b2
      have B2 := Lib.hid (HB0.out.trans (b2.mono HB0.out.size))
      clear b2
      go_wp2_with fail
      refine (KN.out _).mono ?_
      rintro e w3 ⟨rfl, b3⟩
      have X3 := Lib.hid (X2.later b3)
      have B3 := Lib.hid (B2.out.trans (b3.mono B2.out.size))
      clear b3
      obtain ⟨c1, c0, f0, l1, l0, ne⟩ := X3.out
      go_wp2_with fail
      have X4 := X3.out.set 0
      refine bodyPost_ret (res_get rfl X4.c0) rfl ?_
      exact sget_none HP.out rfl (B3.out.setCell (Nat.le_refl _) _)
    | some z =>
      obtain ⟨n, c⟩ := z
      have KC := Lib.hid (ak_first s0 (w.heap.size + 1) w.heap.size n c W1 HX.out hq)
      have n0 := (Sf.leaf_of_get hq).1
      have hcl := (Sf.leaf_of_get hq).2.2.1
      have HN0 := Lib.hid n0
      cases ht : Ta.take 0 c with
      | none =>
        have KN := Lib.hid (fun w => tnum_none c w (by omega) ht)
        have HP := Lib.hid (show Sf.pget G = none by obtain ⟨t, ht'⟩ := HG0.out; rw [ht']; unfold Sf.pget; simp only [hq, ht])
        clear hq ht n0 hcl
        go_enter Tryd.func46, Tryd.ntmps46
        go_wp2_with fail
        refine KA.out.mono ?_
        rintro e w' ⟨rfl, rfl⟩
        go_wp2_with fail
        refine KC.out.mono ?_
        rintro e w1' ⟨rfl, w2, b2, rfl⟩
        have X2 := (HX.out.later b2).set n
        have B2 := (HB0.out.trans (b2.mono HB0.out.size)).setCell (p := ⟨w.heap.size, 0, none⟩) (Nat.le_refl _) (.int .u64 n)
        clear b2
        generalize w2.setCell ⟨w.heap.size, 0, none⟩ (.int .u64 n) = W2 at X2 B2 ⊢
        have X2 := Lib.hid X2
        have B2 := Lib.hid B2
        go_wp2_with fail
        refine (KN.out _).mono ?_
        rintro e w3 ⟨rfl, b3⟩
        have X3 := Lib.hid (X2.out.later b3)
        have B3 := Lib.hid (B2.out.trans (b3.mono B2.out.size))
        clear b3
        obtain ⟨c1, c0, f0, l1, l0, ne⟩ := X3.out
        go_wp2_with fail
        have X4 := X3.out.set 0
        refine bodyPost_ret (res_get rfl X4.c0) rfl ?_
        exact sget_none HP.out rfl (B3.out.setCell (Nat.le_refl _) _)
      | some z =>
        obtain ⟨m, r0⟩ := z
        have KN := Lib.hid (fun w => tnum_some c r0 m w (by omega) ht)
        have HP0 := Lib.hid (show Sf.pget G = if 98304 < m ∨ G.length < Sf.many m then none else if (G.take (Sf.many m)).all (Sf.isOf n) then (match Ta.takeText ((G.take (Sf.many m)).map Lf.mid).flatten with | none => none | some (s, r) => if r.all (· == 0) then some (n, s, Sf.many m) else none) else none by
          obtain ⟨t, ht'⟩ := HG0.out
          rw [ht']; unfold Sf.pget; simp only [hq, ht]
          rfl)
        have hc9 : c.length ≤ 48 := by omega
        clear hq ht n0 hcl
        by_cases hm9 : 98304 < m
        · have HP := Lib.hid (show Sf.pget G = none by rw [HP0.out]; exact if_pos (.inl hm9))
          have q9 : (98304 : Int) < (m : Int) := by omega
          go_enter Tryd.func46, Tryd.ntmps46
          go_wp2_with fail
          refine KA.out.mono ?_
          rintro e w' ⟨rfl, rfl⟩
          go_wp2_with fail
          refine KC.out.mono ?_
          rintro e w1' ⟨rfl, w2, b2, rfl⟩
          have X2 := (HX.out.later b2).set n
          have B2 := (HB0.out.trans (b2.mono HB0.out.size)).setCell (p := ⟨w.heap.size, 0, none⟩) (Nat.le_refl _) (.int .u64 n)
          clear b2
          generalize w2.setCell ⟨w.heap.size, 0, none⟩ (.int .u64 n) = W2 at X2 B2 ⊢
          have X2 := Lib.hid X2
          have B2 := Lib.hid B2
          go_wp2_with fail
          refine (KN.out _).mono ?_
          rintro e w3 ⟨rfl, b3⟩
          have X3 := Lib.hid (X2.out.later b3)
          have B3 := Lib.hid (B2.out.trans (b3.mono B2.out.size))
          clear b3
          obtain ⟨c1, c0, f0, l1, l0, ne⟩ := X3.out
          go_wp2_with fail
          have X4 := X3.out.set 0
          refine bodyPost_ret (res_get rfl X4.c0) rfl ?_
          exact sget_none HP.out rfl (B3.out.setCell (Nat.le_refl _) _)
        · have q9 : (m : Int) ≤ 98304 := by omega
          have KM := Lib.hid (fun w => (show Calls Tryd.prog 60 #[.int .i64 (m : Int)] w (fun e w' => e = .returned (.int .i64 (Sf.many m)) ∧ w = w') from many_c (m : Int) w (by omega) (by omega)))
          have hpos := Sf.many_pos m
          obtain ⟨K, hK⟩ : ∃ K, Sf.many m = K := ⟨_, rfl⟩
          rw [hK] at HP0 KM hpos
          clear hK
          by_cases hKL : L.length < K
          · have HP := Lib.hid (show Sf.pget G = none by rw [HP0.out]; exact if_pos (.inr (by rw [HLL.out]; exact hKL)))
            have q8 : (L.length : Int) < (K : Int) := by omega
            go_enter Tryd.func46, Tryd.ntmps46
            go_wp2_with fail
            refine KA.out.mono ?_
            rintro e w' ⟨rfl, rfl⟩
            go_wp2_with fail
            refine KC.out.mono ?_
            rintro e w1' ⟨rfl, w2, b2, rfl⟩
            have X2 := (HX.out.later b2).set n
            have B2 := (HB0.out.trans (b2.mono HB0.out.size)).setCell (p := ⟨w.heap.size, 0, none⟩) (Nat.le_refl _) (.int .u64 n)
            clear b2
            generalize w2.setCell ⟨w.heap.size, 0, none⟩ (.int .u64 n) = W2 at X2 B2 ⊢
            have X2 := Lib.hid X2
            have B2 := Lib.hid B2
            go_wp2_with fail
            refine (KN.out _).mono ?_
            rintro e w3 ⟨rfl, b3⟩
            have X3 := Lib.hid (X2.out.later b3)
            have B3 := Lib.hid (B2.out.trans (b3.mono B2.out.size))
            clear b3
            obtain ⟨c1, c0, f0, l1, l0, ne⟩ := X3.out
            go_wp2_with fail
            refine (KM.out _).mono ?_
            rintro e w' ⟨rfl, rfl⟩
            go_wp2_with fail
            have X4 := X3.out.set 0
            refine bodyPost_ret (res_get rfl X4.c0) rfl ?_
            exact sget_none HP.out rfl (B3.out.setCell (Nat.le_refl _) _)
          · have q8 : (K : Int) ≤ (L.length : Int) := by omega
            have q7 : (K : Int) ≤ (cap : Int) := by omega
            have q6 : (0 : Int) ≤ (K : Int) := by omega
            have HP := Lib.hid (show Sf.pget G = if (G.take K).all (Sf.isOf n) then (match Ta.takeText ((G.take K).map Lf.mid).flatten with | none => none | some (s, r) => if r.all (· == 0) then some (n, s, K) else none) else none by
              rw [HP0.out]; exact if_neg (by rw [HLL.out]; omega))
            clear HP0
            go_enter Tryd.func46, Tryd.ntmps46
            go_wp2_with fail
            refine KA.out.mono ?_
            rintro e w' ⟨rfl, rfl⟩
            go_wp2_with fail
            refine KC.out.mono ?_
            rintro e w1' ⟨rfl, w2, b2, rfl⟩
            have X2 := (HX.out.later b2).set n
            have B2 := (HB0.out.trans (b2.mono HB0.out.size)).setCell (p := ⟨w.heap.size, 0, none⟩) (Nat.le_refl _) (.int .u64 n)
            clear b2
            generalize w2.setCell ⟨w.heap.size, 0, none⟩ (.int .u64 n) = W2 at X2 B2 ⊢
            have X2 := Lib.hid X2
            have B2 := Lib.hid B2
            go_wp2_with fail
            refine (KN.out _).mono ?_
            rintro e w3 ⟨rfl, b3⟩
            have X3 := Lib.hid (X2.out.later b3)
            have B3 := Lib.hid (B2.out.trans (b3.mono B2.out.size))
            clear b3
            obtain ⟨c1, c0, f0, l1, l0, ne⟩ := X3.out
            go_wp2_with fail
            refine (KM.out _).mono ?_
            rintro e w' ⟨rfl, rfl⟩
            go_wp2_with fail
            refine (KM.out _).mono ?_
            rintro e w' ⟨rfl, rfl⟩
            go_wp2_with fail
            have hbs := isB_new w3
            have hB4 := B3.out.alloc B3.out.size (.cells #[.pointer none, .slice none 0 0] 109)
            have hX4 := X3.out.later ((Below.refl _ w3).alloc (Nat.le_refl _) (.cells #[.pointer none, .slice none 0 0] 109))
            have hbw : w.heap.size + 1 < w3.heap.size := l1
            generalize w3.alloc (.cells #[.pointer none, .slice none 0 0] 109) = W4 at hbs hB4 hX4 ⊢
            obtain ⟨bb, hbb⟩ : ∃ bb, w3.heap.size = bb := ⟨_, rfl⟩
            rw [hbb] at hbs hbw ⊢
            clear c1 c0 f0 l1 l0 ne hbb
            have HBS := Lib.hid hbs
            have HB4 := Lib.hid hB4
            have HX4 := Lib.hid hX4
            clear hbs hB4 hX4
            go_loopw [13, 14, 15, 56] (fun _ _ _ i wr => ∃ k : Nat, k ≤ K ∧ i = .int .i64 k ∧ (∀ y ∈ G.take k, Sf.isOf n y = true) ∧ IsB bb ((G.take k).map Lf.mid).flatten wr ∧ Ak (w.heap.size + 1) w.heap.size n wr ∧ Below w.heap.size w wr) (fun _ _ _ i _ => K - (intOf i).toNat)
            case atStart => exact ⟨0, by omega, rfl, by simp, by simpa using HBS.out, HX4.out, HB4.out⟩
            case round =>
              obtain ⟨k, hk, rfl, hall, hbs, hak, hB⟩ := hrel
              have HALL := Lib.hid hall
              have HBS2 := Lib.hid hbs
              have HAK := Lib.hid hak
              have HB := Lib.hid hB
              clear hall hbs hak hB
              by_cases hlt : k < K
              · obtain ⟨b', off', hbo, hbl', hc⟩ := HLS.out k (by omega)
                obtain ⟨rfl, rfl⟩ : b = b' ∧ off = off' := by simpa using hbo
                have hcell := (HB.out.cell (p := ⟨b, off + k, none⟩) (by simpa using hbl')).trans hc
                obtain ⟨hkG, hGk⟩ := HGG.out k (by omega)
                obtain ⟨s, hs⟩ : ∃ s, L[k] = s := ⟨_, rfl⟩
                rw [hs] at hcell hGk
                have HGK := Lib.hid hGk
                have r0' : (0 : Int) ≤ (k : Int) := by omega
                have r1 : (k : Int) < (K : Int) := by omega
                clear hbo hbl' hc hs hGk
                cases hi : Sf.isOf n s.data.toList with
                | true =>
                  have KI := Lib.hid (ak_isOf s (w.heap.size + 1) w.heap.size n wr HAK.out HN0.out hi)
                  have hml := (Sf.isOf_leaf hi).1
                  have hfl := flat_le n (G.take k) HALL.out
                  have hkl : (G.take k).length ≤ 1000 := by rw [List.length_take]; omega
                  have HAN := Lib.hid (show ∀ y ∈ G.take (k + 1), Sf.isOf n y = true by
                    intro y hy
                    rw [List.take_succ_eq_append_getElem hkG] at hy
                    rcases List.mem_append.1 hy with h | h
                    · exact HALL.out y h
                    · rw [List.mem_singleton.1 h, HGK.out]; exact hi)
                  have hfn := flat_next hkG
                  rw [HGK.out] at hfn
                  obtain ⟨mid, hmid⟩ : ∃ x, Lf.mid s.data.toList = x := ⟨_, rfl⟩
                  rw [hmid] at hml hfn KI
                  obtain ⟨A, hA⟩ : ∃ A, ((G.take k).map Lf.mid).flatten = A := ⟨_, rfl⟩
                  rw [hA] at hfl hfn HBS2
                  have HFN := Lib.hid hfn
                  have KW := Lib.hid (fun w h => isB_write bb A mid w h (by omega))
                  clear hi hml hfl hkl hfn hmid hA
                  go_wp2_with fail
                  refine KI.out.mono ?_
                  rintro e w5' ⟨rfl, w5, b5, rfl⟩
                  have X5 := (HAK.out.later b5).set n
                  have S5 := (HBS2.out.later b5).set (b0 := w.heap.size) (by omega) (.int .u64 n)
                  have B5 := (HB.out.trans (b5.mono HB.out.size)).setCell (p := ⟨w.heap.size, 0, none⟩) (Nat.le_refl _) (.int .u64 n)
                  clear b5
                  generalize w5.setCell ⟨w.heap.size, 0, none⟩ (.int .u64 n) = W5 at X5 S5 B5 ⊢
                  have HX5 := Lib.hid X5
                  have HS5 := Lib.hid S5
                  have HB5 := Lib.hid B5
                  clear X5 S5 B5
                  go_wp2_with fail
                  refine (KW.out _ HS5.out).mono ?_
                  rintro e w6 ⟨rfl, h6, b6⟩
                  have HS6 := Lib.hid h6
                  have HX6 := Lib.hid (HX5.out.under b6 (by omega) (by omega))
                  have HB6 := Lib.hid (HB5.out.trans (b6.mono (by omega)))
                  clear h6 b6
                  go_wp2_with fail
                  exact ⟨⟨k + 1, by omega, by simp, HAN.out, by rw [HFN.out]; exact HS6.out, HX6.out, HB6.out⟩, by simp [intOf]; omega⟩
                | false =>
                  have KI := Lib.hid (ak_notOf s (w.heap.size + 1) w.heap.size n wr HAK.out HN0.out hi)
                  have HPN := Lib.hid (show Sf.pget G = none by
                    rw [HP.out]
                    refine if_neg fun h => ?_
                    have h1 := List.all_eq_true.1 h G[k] (List.mem_take_iff_getElem.2 ⟨k, by omega, rfl⟩)
                    rw [HGK.out, hi] at h1
                    exact Bool.noConfusion h1)
                  clear hi
                  go_wp2_with fail
                  refine KI.out.mono ?_
                  rintro e w5 ⟨rfl, b5⟩
                  have X5 := Lib.hid (HAK.out.later b5)
                  have B5 := Lib.hid (HB.out.trans (b5.mono HB.out.size))
                  clear b5
                  obtain ⟨c1, c0, f0, l1, l0, ne⟩ := X5.out
                  go_wp2_with fail
                  have X6 := X5.out.set 0
                  refine bodyPost_ret (res_get rfl X6.c0) rfl ?_
                  exact sget_none HPN.out rfl (B5.out.setCell (Nat.le_refl _) _)
              · obtain rfl : k = K := by omega
                have hfl := flat_le n (G.take k) HALL.out
                have hkl : (G.take k).length ≤ 1000 := by rw [List.length_take]; omega
                have HPA := Lib.hid (show Sf.pget G = (match Ta.takeText ((G.take k).map Lf.mid).flatten with | none => none | some (s, r) => if r.all (· == 0) then some (n, s, k) else none) by
                  rw [HP.out]; exact if_pos (List.all_eq_true.2 HALL.out))
                obtain ⟨A, hA⟩ : ∃ A, ((G.take k).map Lf.mid).flatten = A := ⟨_, rfl⟩
                rw [hA] at hfl HBS2 HPA
                have KS := Lib.hid (bstring bb A wr HBS2.out)
                have hA9 : A.length ≤ 100000 := by omega
                clear hfl hkl hA
                cases hT : Ta.takeText A with
                | none =>
                  have KT := Lib.hid (fun w => ptext_none A w hA9 hT)
                  have HPN := Lib.hid (show Sf.pget G = none by rw [HPA.out, hT])
                  clear hT
                  go_wp2_with fail
                  refine KS.out.mono ?_
                  rintro e w5 ⟨rfl, b5⟩
                  have X5 := Lib.hid (HAK.out.under b5 (by omega) (by omega))
                  have B5 := Lib.hid (HB.out.trans (b5.mono (by omega)))
                  clear b5
                  go_wp2_with fail
                  refine (KT.out _).mono ?_
                  rintro e w6 ⟨rfl, b6⟩
                  have X6 := Lib.hid (X5.out.later b6)
                  have B6 := Lib.hid (B5.out.trans (b6.mono B5.out.size))
                  clear b6
                  obtain ⟨c1, c0, f0, l1, l0, ne⟩ := X6.out
                  go_wp2_with fail
                  have X7 := X6.out.set 0
                  refine bodyPost_ret (res_get rfl X7.c0) rfl ?_
                  exact sget_none HPN.out rfl (B6.out.setCell (Nat.le_refl _) _)
                | some y =>
                  obtain ⟨s, r⟩ := y
                  have KT := Lib.hid (fun w => ptext_some A s r w hA9 hT)
                  have hrl := takeText_len A s r hT
                  have hr9 : r.length ≤ 100000 := by omega
                  clear hrl
                  cases hz0 : r.all (· == 0) with
                  | true =>
                    have KZ := Lib.hid (fun w => btrim_yes r w hr9 hz0)
                    have HPS := Lib.hid (show Sf.pget G = some (n, s, k) by rw [HPA.out, hT]; simp only [hz0]; rfl)
                    clear hT hz0
                    go_wp2_with fail
                    refine KS.out.mono ?_
                    rintro e w5 ⟨rfl, b5⟩
                    have X5 := Lib.hid (HAK.out.under b5 (by omega) (by omega))
                    have B5 := Lib.hid (HB.out.trans (b5.mono (by omega)))
                    clear b5
                    go_wp2_with fail
                    refine (KT.out _).mono ?_
                    rintro e w6 ⟨rfl, b6⟩
                    have X6 := Lib.hid (X5.out.later b6)
                    have B6 := Lib.hid (B5.out.trans (b6.mono B5.out.size))
                    clear b6
                    go_wp2_with fail
                    refine (KZ.out _).mono ?_
                    rintro e w7 ⟨rfl, b7⟩
                    have X7 := Lib.hid (X6.out.later b7)
                    have B7 := Lib.hid (B6.out.trans (b7.mono B6.out.size))
                    clear b7
                    obtain ⟨c1, c0, f0, l1, l0, ne⟩ := X7.out
                    go_wp2_with fail
                    have X8 := X7.out.set n
                    refine bodyPost_ret (res_get rfl X8.c0) rfl ?_
                    exact sget_some HPS.out rfl (B7.out.setCell (Nat.le_refl _) _)
                  | false =>
                    have KZ := Lib.hid (fun w => btrim_no r w hr9)
                    have HPN := Lib.hid (show Sf.pget G = none by rw [HPA.out, hT]; simp only [hz0]; rfl)
                    have hne := trim_no r hz0
                    clear hT hz0
                    obtain ⟨E, hE⟩ : ∃ E, Lib.trimB r 0 = E := ⟨_, rfl⟩
                    rw [hE] at hne KZ
                    have he1 : (!E.isEmpty) = true := by cases E with | nil => exact absurd rfl hne | cons => rfl
                    clear hE hne
                    go_wp2_with fail
                    refine KS.out.mono ?_
                    rintro e w5 ⟨rfl, b5⟩
                    have X5 := Lib.hid (HAK.out.under b5 (by omega) (by omega))
                    have B5 := Lib.hid (HB.out.trans (b5.mono (by omega)))
                    clear b5
                    go_wp2_with fail
                    refine (KT.out _).mono ?_
                    rintro e w6 ⟨rfl, b6⟩
                    have X6 := Lib.hid (X5.out.later b6)
                    have B6 := Lib.hid (B5.out.trans (b6.mono B5.out.size))
                    clear b6
                    go_wp2_with fail
                    refine (KZ.out _).mono ?_
                    rintro e w7 ⟨rfl, b7⟩
                    have X7 := Lib.hid (X6.out.later b7)
                    have B7 := Lib.hid (B6.out.trans (b7.mono B6.out.size))
                    clear b7
                    obtain ⟨c1, c0, f0, l1, l0, ne⟩ := X7.out
                    go_wp2_with fail
                    have X8 := X7.out.set 0
                    refine bodyPost_ret (res_get rfl X8.c0) rfl ?_
                    exact sget_none HPN.out rfl (B7.out.setCell (Nat.le_refl _) _)
end Go.Proofs.YtjlncjabiofklaaDoor.Shf
