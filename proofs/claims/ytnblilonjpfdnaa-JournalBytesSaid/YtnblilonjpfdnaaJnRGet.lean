/- Package journal: the document's Get. -/
import Derived.Test.YtnblilonjpfdnaaJnRGet0
import Derived.Test.YtnblilonjpfdnaaJnGet0
import Derived.Test.YtnblilonjpfdnaaJnLaw4
namespace Go.Proofs.Ytnblilonjpfdnaa.Jn
open Go Go.RowKit Ck
/-- A row of numbers. -/
def Us (w : World) (g : Nat) (ns : List Nat) : Prop := ∃ L : List Value, Rw w g TU L ∧ ∀ i (h : i < ns.length), L[i]? = some (uv ns[i])
theorem Us.at {w : World} {g : Nat} {ns : List Nat} (h : Us w g ns) (i : Nat) (hi : i < ns.length) : w.cell? ⟨g, i, none⟩ = some (uv ns[i]) := by
  obtain ⟨L, h1, h2⟩ := h
  rw [h1.cell]
  exact h2 i hi
theorem Us.lt {w : World} {g : Nat} {ns : List Nat} (h : Us w g ns) : g < w.heap.size := by
  obtain ⟨L, h1, _⟩ := h
  exact h1.lt
theorem us_own {w : World} {base : Nat} {v : Value} {ns : List Nat} (h : w.ownsRow base TU 1 v ns.length (ns.map uv)) (hp : 0 < ns.length) : ∃ g cap, v = .slice (some ⟨g, 0, none⟩) ns.length cap ∧ base ≤ g ∧ Us w g ns := by
  have hlt := h.lt
  rcases id h.2 with ⟨rfl, h0⟩ | ⟨g, cap, cur, rfl, hb, hg, hc, _, _, ht⟩
  · omega
  · refine ⟨g, cap, rfl, (hlt g rfl).1, cur.toList, ?_, fun i hi => ?_⟩
    · show w.heap[g]? = some (Obj.cells cur.toList.toArray TU _)
      rw [Array.toArray_toList]
      exact hg
    · have h2 := congrArg (fun l => l[i]?) ht
      rw [List.getElem?_take_of_lt (by omega), List.getElem?_map, List.getElem?_eq_getElem hi] at h2
      exact h2
theorem Us.later {w w' : World} {g : Nat} {ns : List Nat} (h : Us w g ns) (hb : Below w.heap.size w w') : Us w' g ns := by
  obtain ⟨L, h1, h2⟩ := h
  exact ⟨L, h1.later hb, h2⟩
theorem Us.keeps {w w' : World} {T : Nat → Prop} {g : Nat} {ns : List Nat} (h : Us w g ns) (k : Keeps T w w') (hT : ¬ T g) : Us w' g ns := by
  obtain ⟨L, h1, h2⟩ := h
  exact ⟨L, h1.keeps k hT, h2⟩
theorem us_ty {w : World} {base g n : Nat} {v : Value} {xs : List Value} {ns : List Nat} (h : w.ownsRow base TLine 4 v n xs) (h' : Us w g ns) : ¬ v.ownBlock = some g := by
  obtain ⟨L, h1, _⟩ := h'
  exact own_type h h1 (by decide)
section
set_option maxRecDepth 100000
set_option maxHeartbeats 6400000
theorem rget_c (B : List UInt8) (w : World) (hB : B.length ≤ 1000000) : Calls Try.prog 28 #[.string (bs B)] w (GetR B w) := by
  have HINF := Lib.hid infoEn
  obtain ⟨i4, z4, hk0, hk1, hk2, hk3, hk4⟩ := info_ln
  have HBL : Hid (B.length ≤ 1000000) := hB
  clear hB
  have HB0 : Hid (Below w.heap.size w (w.alloc (.cells #[.int .i64 0, .int .u8 0, .int .u64 0, .slice none 0 0] TEn))) := (Below.refl _ w).alloc (Nat.le_refl _) _
  have RZ : Hid (Rw (w.alloc (.cells #[.int .i64 0, .int .u8 0, .int .u64 0, .slice none 0 0] TEn)) w.heap.size TEn [.int .i64 0, .int .u8 0, .int .u64 0, .slice none 0 0]) := Rw.new w [.int .i64 0, .int .u8 0, .int .u64 0, .slice none 0 0] TEn
  go_enter Try.func28, Try.ntmps28
  go_upto_region 1 with (fail)
  obtain ⟨lo, hlo⟩ : ∃ lo, lo = w.heap.size := ⟨_, rfl⟩
  have HLO := Lib.hid hlo
  rw [← hlo] at HB0 RZ ⊢
  obtain ⟨bz, hbz⟩ : ∃ bz, bz = lo := ⟨_, rfl⟩
  rw [← hbz] at RZ ⊢
  have HZL : Hid (lo ≤ bz) := Nat.le_of_eq hbz.symm
  clear hlo hbz
  generalize w.alloc (.cells #[.int .i64 0, .int .u8 0, .int .u64 0, .slice none 0 0] TEn) = W1 at HB0 RZ ⊢
  have K1 : Hid (Calls Try.prog 70 #[.string (bs B), .int .i64 4] W1 (NumsR (takes 4 B) W1)) := nums_c 4 (by omega) B W1 HBL.out
  obtain ⟨o, ho⟩ : ∃ o, o = takes 4 B := ⟨_, rfl⟩
  rw [← ho] at K1
  have HO4 := Lib.hid ho.symm
  clear ho
  go_wp2_with fail
  refine K1.out.mono ?_
  rintro e2 W2 ⟨hb2, hr2⟩
  have HB2 : Hid (Below lo w W2) := HB0.out.trans (hb2.mono (by rw [HLO.out]; exact HB0.out.size))
  have RZ2 := Lib.hid (RZ.out.later hb2)
  have HS1 : Hid (bz < W1.heap.size) := RZ.out.lt
  clear K1 hb2 HB0 RZ
  cases o with
  | none =>
    have he : e2 = .returned (.tuple #[.slice none 0 0, .string (bs []), .bool false]) := hr2
    subst he
    clear hr2
    have HNO : Hid (NoEn B) := head_no HO4.out
    have R9 : Rw (W2.setCells bz 0 #[.int .i64 0, .int .u8 0, .int .u64 0, .slice none 0 0].toList) bz TEn [.int .i64 0, .int .u8 0, .int .u64 0, .slice none 0 0] := RZ2.out.setCells (cs := [.int .i64 0, .int .u8 0, .int .u64 0, .slice none 0 0]) 0 (by simp)
    have kp9 : Keeps (fun j => j = bz) W2 (W2.setCells bz 0 #[.int .i64 0, .int .u8 0, .int .u64 0, .slice none 0 0].toList) := (Keeps.refl (fun j => j = bz) _).setCells bz 0 _ (.inl rfl)
    have B9 : Below lo w (W2.setCells bz 0 #[.int .i64 0, .int .u8 0, .int .u64 0, .slice none 0 0].toList) := Keeps.belowT HB2.out kp9 (fun j hj => by rw [hj]; exact HZL.out) (by rw [HLO.out]; exact HB2.out.size)
    have RZ9 := Lib.hid R9
    have HB9 := Lib.hid B9
    have KP9 := Lib.hid kp9
    clear R9 B9 kp9
    go_wp2_with (with_reducible refine wpList_store_mid rfl TEn _ _ rfl bz 0 #[.int .i64 0, .int .u8 0, .int .u64 0, .slice none 0 0] rfl rfl ?thr ?inf ?one ?_)
    case thr => exact RZ2.out.there 0 4 (by simp)
    case inf => simpa using HINF.out
    case one => simp [Value.oneCell']
    generalize W2.setCells bz 0 #[.int .i64 0, .int .u8 0, .int .u64 0, .slice none 0 0].toList = W9 at RZ9 HB9 KP9 ⊢
    go_wp2_with fail
    have r0 : W9.cell? ⟨bz, 0, none⟩ = some (.int .i64 0) := RZ9.out.cell 0
    have r1 : W9.cell? ⟨bz, 1, none⟩ = some (.int .u8 0) := RZ9.out.cell 1
    have r2 : W9.cell? ⟨bz, 2, none⟩ = some (.int .u64 0) := RZ9.out.cell 2
    have r3 : W9.cell? ⟨bz, 3, none⟩ = some (.slice none 0 0) := RZ9.out.cell 3
    refine bodyPost_ret (v := .tuple #[.agg #[.int .i64 0, .int .u8 0, .int .u64 0, .slice none 0 0], .int .i64 5]) (by simp [results, Try.results28, go_sem, r0, r1, r2, r3]) rfl ?_
    exact ⟨by rw [← HLO.out]; exact HB9.out, .inr ⟨HNO.out, rfl⟩⟩
  | some x =>
    obtain ⟨ns, t⟩ := x
    obtain ⟨v, rfl, hown⟩ : ∃ v, e2 = .returned (.tuple #[v, .string (bs t), .bool true]) ∧ W2.ownsRow W1.heap.size TU 1 v ns.length (ns.map uv) := hr2
    obtain ⟨a, b, c, n, rfl, ha9, hb9, hc9, hn9, htl, hy, hno⟩ := head_yes HO4.out
    obtain ⟨g, gc, rfl, hg1, hus⟩ := us_own hown (by simp)
    have HY := Lib.hid hy
    have HNN := Lib.hid hno
    have HUS := Lib.hid hus
    have HG1 : Hid (bz < g) := Nat.lt_of_lt_of_le HS1.out hg1
    have HTL : Hid (t.length ≤ 1000000) := Nat.le_trans htl HBL.out
    have c0 : W2.cell? ⟨g, 0, none⟩ = some (.int .u64 (a : Int)) := hus.at 0 (by simp)
    have c1 : W2.cell? ⟨g, 1, none⟩ = some (.int .u64 (b : Int)) := hus.at 1 (by simp)
    have c2 : W2.cell? ⟨g, 2, none⟩ = some (.int .u64 (c : Int)) := hus.at 2 (by simp)
    have c3 : W2.cell? ⟨g, 3, none⟩ = some (.int .u64 (n : Int)) := hus.at 3 (by simp)
    have HC9 := Lib.hid hc9
    clear hy hno hus hown hg1 htl ha9 hb9 hc9 hn9
    by_cases h1 : a ≤ 3652059
    · by_cases h2 : b ≤ 255
      · by_cases h3 : n ≤ 64
        · have HG0 := Lib.hid (HY.out h1 h2 h3)
          have HL1 : Hid (a ≤ 3652059) := h1
          have HL2 : Hid (b ≤ 255) := h2
          have HL3 : Hid (n ≤ 64) := h3
          have m1 : (a : Int) ≤ 3652059 := by omega
          have m2 : (b : Int) ≤ 255 := by omega
          have m3 : (n : Int) ≤ 64 := by omega
          clear h1 h2 h3 HY HNN
          go_upto_region 4 with (fail)
          clear c0 c1 c2 c3 m1 m2 m3
          have hw1 : IntKind.i64.wrap (a : Int) = (a : Int) := IntWalk.i64_in _ (by have := HL1.out; exact ⟨by omega, by omega⟩)
          have hw2 : IntKind.u8.wrap (b : Int) = (b : Int) := IntWalk.u8_in _ (by have := HL2.out; exact ⟨by omega, by omega⟩)
          have HUD : Hid (Us W2.drew g [a, b, c, n]) := HUS.out
          refine wp_region_held_drew (S := (fun u => (u.cell? ⟨g, 0, none⟩ = some (.int .u64 (a : Int)) ∧ u.cell? ⟨g, 1, none⟩ = some (.int .u64 (b : Int)) ∧ u.cell? ⟨g, 2, none⟩ = some (.int .u64 (c : Int))))) (by kernel_rfl) ⟨HUD.out.at 0 (by simp), HUD.out.at 1 (by simp), HUD.out.at 2 (by simp)⟩ (fun hHeld => ?_)
          refine wpAnyH_take (i := 0) (oi := { dst := some 44, op := Op.move (Operand.tmp 4), type := 118, pos := "ref.go:203", after := #[], guard := none }) (v := (.slice (some ⟨g, 0, none⟩) 4 gc)) rfl (by kernel_rfl) (by kernel_rfl) (by kernel_rfl) (fun _ _ _ h => h) (Or.inl ⟨by rfl, ?_⟩) hHeld ?_
          · rintro u ⟨p0, p1, p2⟩
            go_simp <;> first | rfl | omega | exact hw1 | exact hw2 | kernel_rfl
          try simp only [Act.put, List.setIfInBounds_toArray, List.set_cons_zero, List.set_cons_succ]
          refine wpAnyH_take (i := 1) (oi := { dst := some 45, op := Op.indexAddr 118 (Operand.tmp 44) (Operand.const (Value.int IntKind.i64 0)), type := 0, pos := "ref.go:203", after := #[{ on := 0, ground := Ground.data }], guard := none }) (v := (.pointer (some ⟨g, 0, none⟩))) rfl (by kernel_rfl) (by kernel_rfl) (by kernel_rfl) (fun _ _ _ h => h) (Or.inl ⟨by rfl, ?_⟩) hHeld ?_
          · rintro u ⟨p0, p1, p2⟩
            go_simp <;> first | rfl | omega | exact hw1 | exact hw2 | kernel_rfl
          try simp only [Act.put, List.setIfInBounds_toArray, List.set_cons_zero, List.set_cons_succ]
          refine wpAnyH_take (i := 2) (oi := { dst := some 46, op := Op.load 22 (Operand.tmp 45), type := 22, pos := "ref.go:203", after := #[{ on := 1, ground := Ground.data }], guard := none }) (v := (.int .u64 (a : Int))) rfl (by kernel_rfl) (by kernel_rfl) (by kernel_rfl) (fun _ _ _ h => h) (Or.inl ⟨by rfl, ?_⟩) hHeld ?_
          · rintro u ⟨p0, p1, p2⟩
            go_simp <;> first | rfl | omega | exact hw1 | exact hw2 | kernel_rfl
          try simp only [Act.put, List.setIfInBounds_toArray, List.set_cons_zero, List.set_cons_succ]
          refine wpAnyH_take (i := 3) (oi := { dst := some 47, op := Op.convert 22 3 (Operand.tmp 46), type := 3, pos := "ref.go:203", after := #[{ on := 2, ground := Ground.data }], guard := none }) (v := (.int .i64 (a : Int))) rfl (by kernel_rfl) (by kernel_rfl) (by kernel_rfl) (fun _ _ _ h => h) (Or.inl ⟨by rfl, ?_⟩) hHeld ?_
          · rintro u ⟨p0, p1, p2⟩
            go_simp <;> first | rfl | omega | exact hw1 | exact hw2 | kernel_rfl
          try simp only [Act.put, List.setIfInBounds_toArray, List.set_cons_zero, List.set_cons_succ]
          refine wpAnyH_take (i := 4) (oi := { dst := some 48, op := Op.move (Operand.tmp 4), type := 118, pos := "ref.go:203", after := #[], guard := none }) (v := (.slice (some ⟨g, 0, none⟩) 4 gc)) rfl (by kernel_rfl) (by kernel_rfl) (by kernel_rfl) (fun _ _ _ h => h) (Or.inl ⟨by rfl, ?_⟩) hHeld ?_
          · rintro u ⟨p0, p1, p2⟩
            go_simp <;> first | rfl | omega | exact hw1 | exact hw2 | kernel_rfl
          try simp only [Act.put, List.setIfInBounds_toArray, List.set_cons_zero, List.set_cons_succ]
          refine wpAnyH_take (i := 5) (oi := { dst := some 49, op := Op.indexAddr 118 (Operand.tmp 48) (Operand.const (Value.int IntKind.i64 1)), type := 0, pos := "ref.go:203", after := #[{ on := 4, ground := Ground.data }], guard := none }) (v := (.pointer (some ⟨g, 1, none⟩))) rfl (by kernel_rfl) (by kernel_rfl) (by kernel_rfl) (fun _ _ _ h => h) (Or.inl ⟨by rfl, ?_⟩) hHeld ?_
          · rintro u ⟨p0, p1, p2⟩
            go_simp <;> first | rfl | omega | exact hw1 | exact hw2 | kernel_rfl
          try simp only [Act.put, List.setIfInBounds_toArray, List.set_cons_zero, List.set_cons_succ]
          refine wpAnyH_take (i := 6) (oi := { dst := some 50, op := Op.load 22 (Operand.tmp 49), type := 22, pos := "ref.go:203", after := #[{ on := 5, ground := Ground.data }], guard := none }) (v := (.int .u64 (b : Int))) rfl (by kernel_rfl) (by kernel_rfl) (by kernel_rfl) (fun _ _ _ h => h) (Or.inl ⟨by rfl, ?_⟩) hHeld ?_
          · rintro u ⟨p0, p1, p2⟩
            go_simp <;> first | rfl | omega | exact hw1 | exact hw2 | kernel_rfl
          try simp only [Act.put, List.setIfInBounds_toArray, List.set_cons_zero, List.set_cons_succ]
          refine wpAnyH_take (i := 7) (oi := { dst := some 51, op := Op.convert 22 5 (Operand.tmp 50), type := 5, pos := "ref.go:203", after := #[{ on := 6, ground := Ground.data }], guard := none }) (v := (.int .u8 (b : Int))) rfl (by kernel_rfl) (by kernel_rfl) (by kernel_rfl) (fun _ _ _ h => h) (Or.inl ⟨by rfl, ?_⟩) hHeld ?_
          · rintro u ⟨p0, p1, p2⟩
            go_simp <;> first | rfl | omega | exact hw1 | exact hw2 | kernel_rfl
          try simp only [Act.put, List.setIfInBounds_toArray, List.set_cons_zero, List.set_cons_succ]
          refine wpAnyH_take (i := 8) (oi := { dst := some 52, op := Op.move (Operand.tmp 4), type := 118, pos := "ref.go:203", after := #[], guard := none }) (v := (.slice (some ⟨g, 0, none⟩) 4 gc)) rfl (by kernel_rfl) (by kernel_rfl) (by kernel_rfl) (fun _ _ _ h => h) (Or.inl ⟨by rfl, ?_⟩) hHeld ?_
          · rintro u ⟨p0, p1, p2⟩
            go_simp <;> first | rfl | omega | exact hw1 | exact hw2 | kernel_rfl
          try simp only [Act.put, List.setIfInBounds_toArray, List.set_cons_zero, List.set_cons_succ]
          refine wpAnyH_take (i := 9) (oi := { dst := some 53, op := Op.indexAddr 118 (Operand.tmp 52) (Operand.const (Value.int IntKind.i64 2)), type := 0, pos := "ref.go:203", after := #[{ on := 8, ground := Ground.data }], guard := none }) (v := (.pointer (some ⟨g, 2, none⟩))) rfl (by kernel_rfl) (by kernel_rfl) (by kernel_rfl) (fun _ _ _ h => h) (Or.inl ⟨by rfl, ?_⟩) hHeld ?_
          · rintro u ⟨p0, p1, p2⟩
            go_simp <;> first | rfl | omega | exact hw1 | exact hw2 | kernel_rfl
          try simp only [Act.put, List.setIfInBounds_toArray, List.set_cons_zero, List.set_cons_succ]
          refine wpAnyH_take (i := 10) (oi := { dst := some 54, op := Op.load 22 (Operand.tmp 53), type := 22, pos := "ref.go:203", after := #[{ on := 9, ground := Ground.data }], guard := none }) (v := (.int .u64 (c : Int))) rfl (by kernel_rfl) (by kernel_rfl) (by kernel_rfl) (fun _ _ _ h => h) (Or.inl ⟨by rfl, ?_⟩) hHeld ?_
          · rintro u ⟨p0, p1, p2⟩
            go_simp <;> first | rfl | omega | exact hw1 | exact hw2 | kernel_rfl
          try simp only [Act.put, List.setIfInBounds_toArray, List.set_cons_zero, List.set_cons_succ]
          refine wpAnyH_take (i := 11) (oi := { dst := some 55, op := Op.build 25 #[(0, Operand.tmp 47), (1, Operand.tmp 51), (2, Operand.tmp 54)], type := 25, pos := "ref.go:203", after := #[{ on := 3, ground := Ground.data }, { on := 7, ground := Ground.data }, { on := 10, ground := Ground.data }], guard := none }) (v := (.agg #[.int .i64 (a : Int), .int .u8 (b : Int), .int .u64 (c : Int), .slice none 0 0])) rfl (by kernel_rfl) (by kernel_rfl) (by kernel_rfl) (fun _ _ _ h => h) (Or.inl ⟨by rfl, ?_⟩) hHeld ?_
          · rintro u ⟨p0, p1, p2⟩
            go_simp <;> first | rfl | omega | exact hw1 | exact hw2 | kernel_rfl
          try simp only [Act.put, List.setIfInBounds_toArray, List.set_cons_zero, List.set_cons_succ]
          have BD : Hid (Below lo w W2.drew) := HB2.out.drew
          have RD : Hid (Rw W2.drew bz TEn [.int .i64 0, .int .u8 0, .int .u64 0, .slice none 0 0]) := RZ2.out.drew
          generalize W2.drew = U0 at HUD BD RD hHeld ⊢
          clear hw1 hw2 HUS HB2 RZ2
          refine wpAnyH_ready (rs := [12]) (by kernel_rfl) (by simp) ?_
          refine AllReadyH.cons (o := { dst := some 7, op := Op.alloc 25, type := 0, pos := "ref.go:203", after := #[], guard := none }) rfl (fun Kq hKq => ?_) AllReadyH.nil
          go_simp
          have hb : Below U0.heap.size U0 (U0.alloc (.cells #[.int .i64 0, .int .u8 0, .int .u64 0, .slice none 0 0] TEn)) := (Below.refl _ _).alloc (Nat.le_refl _) _
          have RE0 : Hid (Rw (U0.alloc (.cells #[.int .i64 0, .int .u8 0, .int .u64 0, .slice none 0 0] TEn)) U0.heap.size TEn [.int .i64 0, .int .u8 0, .int .u64 0, .slice none 0 0]) := Rw.new U0 [.int .i64 0, .int .u8 0, .int .u64 0, .slice none 0 0] TEn
          have HUS1 := Lib.hid (HUD.out.later hb)
          have RZ1 := Lib.hid (RD.out.later hb)
          have HB1 : Hid (Below lo w (U0.alloc (.cells #[.int .i64 0, .int .u8 0, .int .u64 0, .slice none 0 0] TEn))) := BD.out.trans (hb.mono (by rw [HLO.out]; exact BD.out.size))
          have HGE : Hid (g < U0.heap.size ∧ bz < U0.heap.size) := ⟨HUD.out.lt, RD.out.lt⟩
          refine hKq.out _ _ ⟨HUS1.out.at 0 (by simp), HUS1.out.at 1 (by simp), HUS1.out.at 2 (by simp)⟩ (fun hHeld2 => ?_)
          clear hKq Kq hb
          try simp only [Act.put, List.setIfInBounds_toArray, List.set_cons_zero, List.set_cons_succ]
          obtain ⟨be, hbe⟩ : ∃ be, be = U0.heap.size := ⟨_, rfl⟩
          rw [← hbe] at RE0 HGE ⊢
          clear hbe
          generalize U0.alloc (.cells #[.int .i64 0, .int .u8 0, .int .u64 0, .slice none 0 0] TEn) = U1 at RE0 HUS1 RZ1 HB1 hHeld2 ⊢
          clear HUD RD BD
          have kp : Keeps (fun j => j = be) U1 (U1.setCells be 0 #[.int .i64 (a : Int), .int .u8 (b : Int), .int .u64 (c : Int), .slice none 0 0].toList) := (Keeps.refl (fun j => j = be) _).setCells be 0 _ (.inl rfl)
          have RE : Hid (Rw (U1.setCells be 0 #[.int .i64 (a : Int), .int .u8 (b : Int), .int .u64 (c : Int), .slice none 0 0].toList) be TEn [.int .i64 (a : Int), .int .u8 (b : Int), .int .u64 (c : Int), .slice none 0 0]) := RE0.out.setCells (cs := [.int .i64 (a : Int), .int .u8 (b : Int), .int .u64 (c : Int), .slice none 0 0]) 0 (by simp)
          have HB5 : Hid (Below lo w (U1.setCells be 0 #[.int .i64 (a : Int), .int .u8 (b : Int), .int .u64 (c : Int), .slice none 0 0].toList)) := Keeps.belowT HB1.out kp (fun j hj => by have e1 : j = be := hj; have h1 := HGE.out; have h2 := HZL.out; omega) (by rw [HLO.out]; exact HB1.out.size)
          have RZ5 := Lib.hid (RZ1.out.keeps kp (by have h1 := HGE.out; omega))
          have HUS5 := Lib.hid (HUS1.out.keeps kp (by have h1 := HGE.out; omega))
          refine wpAnyH_ready (rs := [13]) (by kernel_rfl) (by simp) ?_
          refine AllReadyH.cons (o := { dst := none, op := Op.store 25 (Operand.tmp 7) (Operand.tmp 55), type := 0, pos := "ref.go:203", after := #[{ on := 12, ground := Ground.data }, { on := 11, ground := Ground.data }, { on := 0, ground := Ground.phase }, { on := 1, ground := Ground.phase }, { on := 2, ground := Ground.phase }, { on := 3, ground := Ground.phase }, { on := 4, ground := Ground.phase }, { on := 5, ground := Ground.phase }, { on := 6, ground := Ground.phase }, { on := 7, ground := Ground.phase }, { on := 8, ground := Ground.phase }, { on := 9, ground := Ground.phase }, { on := 10, ground := Ground.phase }, { on := 11, ground := Ground.phase }, { on := 12, ground := Ground.phase }], guard := none }) rfl (fun Kq hKq => ?_) AllReadyH.nil
          rw [if_pos (by rfl)]
          refine wp_store_mid TEn (.tmp 7) (.tmp 55) rfl be 0 #[.int .i64 (a : Int), .int .u8 (b : Int), .int .u64 (c : Int), .slice none 0 0] (by rfl) (by rfl) (RE0.out.there 0 4 (by simp)) (by simpa using HINF.out) (by simp [Value.oneCell']) ?_
          refine hKq.out _ _ ⟨HUS5.out.at 0 (by simp), HUS5.out.at 1 (by simp), HUS5.out.at 2 (by simp)⟩ (fun hHeld3 => ?_)
          clear hKq Kq kp RE0 HUS1 RZ1 HB1
          try simp only [Act.put, List.setIfInBounds_toArray, List.set_cons_zero, List.set_cons_succ]
          generalize U1.setCells be 0 #[.int .i64 (a : Int), .int .u8 (b : Int), .int .u64 (c : Int), .slice none 0 0].toList = U2 at RE HB5 RZ5 HUS5 hHeld3 ⊢
          have HZE : Hid (lo ≤ bz ∧ bz < be ∧ g < be) := ⟨HZL.out, HGE.out.2, HGE.out.1⟩
          clear hHeld hHeld2 hHeld3
          refine wpAnyH_done (by kernel_rfl) ?_ _
          go_upto_region 6 with (fail)
          go_loopg [5, 8] n (fun kx s5 s8 wr => ∃ (A : List Ln) (vv : Value) (r : List UInt8), s8 = .int .u64 (A.length : Int) ∧ s5 = .string (bs r) ∧ A.length ≤ n ∧ Hid (wr.ownsRow (be + 1) TLine 4 vv A.length (flatL A)) ∧ Hid (Rw wr be TEn [.int .i64 (a : Int), .int .u8 (b : Int), .int .u64 (c : Int), vv]) ∧ Hid (Rw wr bz TEn [.int .i64 0, .int .u8 0, .int .u64 0, .slice none 0 0]) ∧ Hid (Us wr g [a, b, c, n]) ∧ Hid (Below lo w wr) ∧ Hid (G B true (headB a b c n ++ linesB A) r (CL a b c n A r)) ∧ Hid (Lr A) ∧ Hid (r.length ≤ 1000000) ∧ n ≤ A.length + kx)
          case atStart => exact ⟨[], .slice none 0 0, t, rfl, rfl, Nat.zero_le _, World.ownsRow_nil _ _ _ _, RE.out, RZ5.out, HUS5.out, HB5.out, by rw [show headB a b c n ++ linesB [] = headB a b c n from List.append_nil _]; exact HG0.out, fun x hx => by simp at hx, HTL.out, by omega⟩
          case round =>
            obtain ⟨A, vv, r, rfl, rfl, hA9, HO, RE, RZ, HUS, HB, HG, HLR, HL, hkx⟩ := hrel
            obtain ⟨va, vc, rfl⟩ := own_any HO.out
            have c3 : wr.cell? ⟨g, 3, none⟩ = some (.int .u64 (n : Int)) := HUS.out.at 3 (by simp)
            have j2 : n ≤ 64 := HL3.out
            by_cases hlt : A.length < n
            · have j1 : (A.length : Int) < (n : Int) := by omega
              have HLT := Lib.hid hlt
              have HKX := Lib.hid hkx
              have K1 : Hid (Calls Try.prog 70 #[.string (bs r), .int .i64 3] wr (NumsR (takes 3 r) wr)) := nums_c 3 (by omega) r wr HL.out
              obtain ⟨o, ho⟩ : ∃ o, o = takes 3 r := ⟨_, rfl⟩
              rw [← ho] at K1
              have HO4 := Lib.hid ho.symm
              clear ho hlt hkx hA9
              go_wp2_with fail
              refine K1.out.mono ?_
              rintro e3 X1 ⟨hb3, hr3⟩
              have HBX : Hid (Below lo w X1) := HB.out.trans (hb3.mono (by rw [HLO.out]; exact HB.out.size))
              have REX := Lib.hid (RE.out.later hb3)
              have RZX := Lib.hid (RZ.out.later hb3)
              have HUX := Lib.hid (HUS.out.later hb3)
              have HOX := Lib.hid (own_later HO.out hb3)
              have HSW : Hid (be < wr.heap.size ∧ bz < wr.heap.size) := ⟨RE.out.lt, RZ.out.lt⟩
              clear K1 hb3 c3 j1 HB RE RZ HUS
              cases o with
              | none =>
                have he : e3 = .returned (.tuple #[.slice none 0 0, .string (bs []), .bool false]) := hr3
                subst he
                have HNO : Hid (NoEn B) := line_no HG.out HLT.out HO4.out
                have K2 : Hid (Calls Try.prog 71 #[.string (bs [])] X1 (Tal.IntRes (Ta.take 0 []) X1)) := by
                  have := Tal.refTakeInt_c (bs []) X1 (by rw [bs_size]; simp)
                  rw [bs_list'] at this
                  exact this
                generalize bs [] = s0 at K2 ⊢
                clear hr3 HO
                go_wp2_with fail
                refine K2.out.mono ?_
                rintro _ X2 ⟨rfl, hb4⟩
                have HBY : Hid (Below lo w X2) := HBX.out.trans (hb4.mono (by rw [HLO.out]; exact HBX.out.size))
                have RZY := Lib.hid (RZX.out.later hb4)
                clear hb4 K2 HBX REX RZX HUX HOX
                have R9 : Rw (X2.setCells bz 0 #[.int .i64 0, .int .u8 0, .int .u64 0, .slice none 0 0].toList) bz TEn [.int .i64 0, .int .u8 0, .int .u64 0, .slice none 0 0] := RZY.out.setCells (cs := [.int .i64 0, .int .u8 0, .int .u64 0, .slice none 0 0]) 0 (by simp)
                have kp9 : Keeps (fun j => j = bz) X2 (X2.setCells bz 0 #[.int .i64 0, .int .u8 0, .int .u64 0, .slice none 0 0].toList) := (Keeps.refl (fun j => j = bz) _).setCells bz 0 _ (.inl rfl)
                have B9 : Below lo w (X2.setCells bz 0 #[.int .i64 0, .int .u8 0, .int .u64 0, .slice none 0 0].toList) := Keeps.belowT HBY.out kp9 (fun j hj => by rw [hj]; exact HZL.out) (by rw [HLO.out]; exact HBY.out.size)
                have RZ9 := Lib.hid R9
                have HB9 := Lib.hid B9
                have KP9 := Lib.hid kp9
                clear R9 B9 kp9
                go_wp2_with (with_reducible refine wpList_store_mid rfl TEn _ _ rfl bz 0 #[.int .i64 0, .int .u8 0, .int .u64 0, .slice none 0 0] rfl rfl ?thr ?inf ?one ?_)
                case thr => exact RZY.out.there 0 4 (by simp)
                case inf => simpa using HINF.out
                case one => simp [Value.oneCell']
                generalize X2.setCells bz 0 #[.int .i64 0, .int .u8 0, .int .u64 0, .slice none 0 0].toList = W9 at RZ9 HB9 KP9 ⊢
                go_wp2_with fail
                have r0 : W9.cell? ⟨bz, 0, none⟩ = some (.int .i64 0) := RZ9.out.cell 0
                have r1 : W9.cell? ⟨bz, 1, none⟩ = some (.int .u8 0) := RZ9.out.cell 1
                have r2 : W9.cell? ⟨bz, 2, none⟩ = some (.int .u64 0) := RZ9.out.cell 2
                have r3 : W9.cell? ⟨bz, 3, none⟩ = some (.slice none 0 0) := RZ9.out.cell 3
                refine bodyPost_ret (v := .tuple #[.agg #[.int .i64 0, .int .u8 0, .int .u64 0, .slice none 0 0], .int .i64 5]) (by simp [results, Try.results28, go_sem, r0, r1, r2, r3]) rfl ?_
                exact ⟨by rw [← HLO.out]; exact HB9.out, .inr ⟨HNO.out, rfl⟩⟩
              | some x =>
                obtain ⟨ns, t⟩ := x
                obtain ⟨v, rfl, hown⟩ : ∃ v, e3 = .returned (.tuple #[v, .string (bs t), .bool true]) ∧ X1.ownsRow wr.heap.size TU 1 v ns.length (ns.map uv) := hr3
                obtain ⟨xa, xb, xc, rfl, ha9, hb9, hc9, htl, hno, hy⟩ := line_yes HG.out HLT.out HO4.out
                obtain ⟨gx, gxc, rfl, hg1, hux⟩ := us_own hown (by simp)
                have K2 : Hid (Calls Try.prog 71 #[.string (bs t)] X1 (Tal.IntRes (Ta.take 0 t) X1)) := by
                  have := Tal.refTakeInt_c (bs t) X1 (by rw [bs_size]; have := HL.out; omega)
                  rw [bs_list'] at this
                  exact this
                have HTL2 : Hid (t.length ≤ 1000000) := Nat.le_trans htl HL.out
                have HNN := Lib.hid hno
                have HY := Lib.hid hy
                have HXG : Hid (be < gx ∧ bz < gx) := ⟨Nat.lt_of_lt_of_le HSW.out.1 hg1, Nat.lt_of_lt_of_le HSW.out.2 hg1⟩
                have HU1 := Lib.hid hux
                have HX9 : Hid (xb < 18446744073709551616 ∧ xc < 18446744073709551616) := ⟨hb9, hc9⟩
                clear hno hy hown hg1 hux htl ha9 hb9 hc9
                obtain ⟨q, hq⟩ : ∃ q, q = Ta.take 0 t := ⟨_, rfl⟩
                rw [← hq] at K2
                have HQ := Lib.hid hq.symm
                clear hq HO
                go_wp2_with fail
                refine K2.out.mono ?_
                rintro _ X2 ⟨rfl, hb4⟩
                have HBY : Hid (Below lo w X2) := HBX.out.trans (hb4.mono (by rw [HLO.out]; exact HBX.out.size))
                have RZY := Lib.hid (RZX.out.later hb4)
                have REY := Lib.hid (REX.out.later hb4)
                have HUY := Lib.hid (HUX.out.later hb4)
                have HOY := Lib.hid (own_later HOX.out hb4)
                have HU2 := Lib.hid (HU1.out.later hb4)
                clear hb4 K2 HBX REX RZX HUX HOX HU1
                have d0 : X2.cell? ⟨gx, 0, none⟩ = some (.int .u64 (xa : Int)) := HU2.out.at 0 (by simp)
                by_cases h1 : xa ≤ 9999
                · have HA1 : Hid (xa ≤ 9999) := h1
                  have HYY := Lib.hid (HY.out h1)
                  have p1 : (xa : Int) ≤ 9999 := by omega
                  clear h1 HNN HY
                  cases q with
                  | none =>
                    have HNO : Hid (NoEn B) := HYY.out.1 HQ.out
                    have R9 : Rw (X2.setCells bz 0 #[.int .i64 0, .int .u8 0, .int .u64 0, .slice none 0 0].toList) bz TEn [.int .i64 0, .int .u8 0, .int .u64 0, .slice none 0 0] := RZY.out.setCells (cs := [.int .i64 0, .int .u8 0, .int .u64 0, .slice none 0 0]) 0 (by simp)
                    have kp9 : Keeps (fun j => j = bz) X2 (X2.setCells bz 0 #[.int .i64 0, .int .u8 0, .int .u64 0, .slice none 0 0].toList) := (Keeps.refl (fun j => j = bz) _).setCells bz 0 _ (.inl rfl)
                    have B9 : Below lo w (X2.setCells bz 0 #[.int .i64 0, .int .u8 0, .int .u64 0, .slice none 0 0].toList) := Keeps.belowT HBY.out kp9 (fun j hj => by rw [hj]; exact HZL.out) (by rw [HLO.out]; exact HBY.out.size)
                    have RZ9 := Lib.hid R9
                    have HB9 := Lib.hid B9
                    have KP9 := Lib.hid kp9
                    clear R9 B9 kp9
                    go_wp2_with (with_reducible refine wpList_store_mid rfl TEn _ _ rfl bz 0 #[.int .i64 0, .int .u8 0, .int .u64 0, .slice none 0 0] rfl rfl ?thr ?inf ?one ?_)
                    case thr => exact RZY.out.there 0 4 (by simp)
                    case inf => simpa using HINF.out
                    case one => simp [Value.oneCell']
                    generalize X2.setCells bz 0 #[.int .i64 0, .int .u8 0, .int .u64 0, .slice none 0 0].toList = W9 at RZ9 HB9 KP9 ⊢
                    go_wp2_with fail
                    have r0 : W9.cell? ⟨bz, 0, none⟩ = some (.int .i64 0) := RZ9.out.cell 0
                    have r1 : W9.cell? ⟨bz, 1, none⟩ = some (.int .u8 0) := RZ9.out.cell 1
                    have r2 : W9.cell? ⟨bz, 2, none⟩ = some (.int .u64 0) := RZ9.out.cell 2
                    have r3 : W9.cell? ⟨bz, 3, none⟩ = some (.slice none 0 0) := RZ9.out.cell 3
                    refine bodyPost_ret (v := .tuple #[.agg #[.int .i64 0, .int .u8 0, .int .u64 0, .slice none 0 0], .int .i64 5]) (by simp [results, Try.results28, go_sem, r0, r1, r2, r3]) rfl ?_
                    exact ⟨by rw [← HLO.out]; exact HB9.out, .inr ⟨HNO.out, rfl⟩⟩
                  | some y =>
                    obtain ⟨nz, t2⟩ := y
                    have HG2 := Lib.hid (HYY.out.2 nz t2 HQ.out)
                    have HT2 : Hid (t2.length ≤ 1000000) := Nat.le_trans (Nat.le_of_lt (Ta.take_bound _ _ _ _ HQ.out).2) HTL2.out
                    clear HYY
                    go_upto_region 12 with (fail)
                    generalize Tal.unz nz = z at HG2 ⊢
                    clear d0 p1
                    have hwa : IntKind.i64.wrap (xa : Int) = (xa : Int) := IntWalk.i64_in _ (by have := HA1.out; exact ⟨by omega, by omega⟩)
                    have HU4 : Hid (Us X2.drew gx [xa, xb, xc]) := HU2.out
                    have HUS4 : Hid (Us X2.drew g [a, b, c, n]) := HUY.out
                    have RE4 : Hid (Rw X2.drew be TEn [.int .i64 (a : Int), .int .u8 (b : Int), .int .u64 (c : Int), .slice va A.length vc]) := REY.out.drew
                    have RZ4 : Hid (Rw X2.drew bz TEn [.int .i64 0, .int .u8 0, .int .u64 0, .slice none 0 0]) := RZY.out.drew
                    have HO4 : Hid (X2.drew.ownsRow (be + 1) TLine 4 (.slice va A.length vc) A.length (flatL A)) := own_later HOY.out (Below.refl _ X2).drew
                    have HB4 : Hid (Below lo w X2.drew) := HBY.out.drew
                    refine wp_region_held_drew (S := (fun u => (u.cell? ⟨gx, 0, none⟩ = some (.int .u64 (xa : Int)) ∧ u.cell? ⟨gx, 1, none⟩ = some (.int .u64 (xb : Int)) ∧ u.cell? ⟨gx, 2, none⟩ = some (.int .u64 (xc : Int))))) (by kernel_rfl) ⟨HU4.out.at 0 (by simp), HU4.out.at 1 (by simp), HU4.out.at 2 (by simp)⟩ (fun hHeld => ?_)
                    refine wpAnyH_take (i := 0) (oi := { dst := some 88, op := Op.fieldAddr 25 (Operand.tmp 7) 3, type := 0, pos := "ref.go:210", after := #[], guard := none }) (v := (.pointer (some ⟨be, 3, none⟩))) rfl (by kernel_rfl) (by kernel_rfl) (by kernel_rfl) (fun _ _ _ h => h) (Or.inl ⟨by rfl, ?_⟩) hHeld ?_
                    · rintro u ⟨p0, p1, p2⟩
                      go_simp <;> first | rfl | omega | exact hwa | kernel_rfl
                    try simp only [Act.put, List.setIfInBounds_toArray, List.set_cons_zero, List.set_cons_succ]
                    refine wpAnyH_take (i := 2) (oi := { dst := some 90, op := Op.move (Operand.tmp 9), type := 118, pos := "ref.go:210", after := #[], guard := none }) (v := (.slice (some ⟨gx, 0, none⟩) 3 gxc)) rfl (by kernel_rfl) (by kernel_rfl) (by kernel_rfl) (fun _ _ _ h => h) (Or.inl ⟨by rfl, ?_⟩) hHeld ?_
                    · rintro u ⟨p0, p1, p2⟩
                      go_simp <;> first | rfl | omega | exact hwa | kernel_rfl
                    try simp only [Act.put, List.setIfInBounds_toArray, List.set_cons_zero, List.set_cons_succ]
                    refine wpAnyH_take (i := 3) (oi := { dst := some 91, op := Op.indexAddr 118 (Operand.tmp 90) (Operand.const (Value.int IntKind.i64 0)), type := 0, pos := "ref.go:210", after := #[{ on := 2, ground := Ground.data }], guard := none }) (v := (.pointer (some ⟨gx, 0, none⟩))) rfl (by kernel_rfl) (by kernel_rfl) (by kernel_rfl) (fun _ _ _ h => h) (Or.inl ⟨by rfl, ?_⟩) hHeld ?_
                    · rintro u ⟨p0, p1, p2⟩
                      go_simp <;> first | rfl | omega | exact hwa | kernel_rfl
                    try simp only [Act.put, List.setIfInBounds_toArray, List.set_cons_zero, List.set_cons_succ]
                    refine wpAnyH_take (i := 4) (oi := { dst := some 92, op := Op.load 22 (Operand.tmp 91), type := 22, pos := "ref.go:210", after := #[{ on := 3, ground := Ground.data }], guard := none }) (v := (.int .u64 (xa : Int))) rfl (by kernel_rfl) (by kernel_rfl) (by kernel_rfl) (fun _ _ _ h => h) (Or.inl ⟨by rfl, ?_⟩) hHeld ?_
                    · rintro u ⟨p0, p1, p2⟩
                      go_simp <;> first | rfl | omega | exact hwa | kernel_rfl
                    try simp only [Act.put, List.setIfInBounds_toArray, List.set_cons_zero, List.set_cons_succ]
                    refine wpAnyH_take (i := 5) (oi := { dst := some 93, op := Op.convert 22 3 (Operand.tmp 92), type := 3, pos := "ref.go:210", after := #[{ on := 4, ground := Ground.data }], guard := none }) (v := (.int .i64 (xa : Int))) rfl (by kernel_rfl) (by kernel_rfl) (by kernel_rfl) (fun _ _ _ h => h) (Or.inl ⟨by rfl, ?_⟩) hHeld ?_
                    · rintro u ⟨p0, p1, p2⟩
                      go_simp <;> first | rfl | omega | exact hwa | kernel_rfl
                    try simp only [Act.put, List.setIfInBounds_toArray, List.set_cons_zero, List.set_cons_succ]
                    refine wpAnyH_take (i := 6) (oi := { dst := some 94, op := Op.move (Operand.tmp 9), type := 118, pos := "ref.go:210", after := #[], guard := none }) (v := (.slice (some ⟨gx, 0, none⟩) 3 gxc)) rfl (by kernel_rfl) (by kernel_rfl) (by kernel_rfl) (fun _ _ _ h => h) (Or.inl ⟨by rfl, ?_⟩) hHeld ?_
                    · rintro u ⟨p0, p1, p2⟩
                      go_simp <;> first | rfl | omega | exact hwa | kernel_rfl
                    try simp only [Act.put, List.setIfInBounds_toArray, List.set_cons_zero, List.set_cons_succ]
                    refine wpAnyH_take (i := 7) (oi := { dst := some 95, op := Op.indexAddr 118 (Operand.tmp 94) (Operand.const (Value.int IntKind.i64 1)), type := 0, pos := "ref.go:210", after := #[{ on := 6, ground := Ground.data }], guard := none }) (v := (.pointer (some ⟨gx, 1, none⟩))) rfl (by kernel_rfl) (by kernel_rfl) (by kernel_rfl) (fun _ _ _ h => h) (Or.inl ⟨by rfl, ?_⟩) hHeld ?_
                    · rintro u ⟨p0, p1, p2⟩
                      go_simp <;> first | rfl | omega | exact hwa | kernel_rfl
                    try simp only [Act.put, List.setIfInBounds_toArray, List.set_cons_zero, List.set_cons_succ]
                    refine wpAnyH_take (i := 8) (oi := { dst := some 96, op := Op.load 22 (Operand.tmp 95), type := 22, pos := "ref.go:210", after := #[{ on := 7, ground := Ground.data }], guard := none }) (v := (.int .u64 (xb : Int))) rfl (by kernel_rfl) (by kernel_rfl) (by kernel_rfl) (fun _ _ _ h => h) (Or.inl ⟨by rfl, ?_⟩) hHeld ?_
                    · rintro u ⟨p0, p1, p2⟩
                      go_simp <;> first | rfl | omega | exact hwa | kernel_rfl
                    try simp only [Act.put, List.setIfInBounds_toArray, List.set_cons_zero, List.set_cons_succ]
                    refine wpAnyH_take (i := 9) (oi := { dst := some 97, op := Op.move (Operand.tmp 9), type := 118, pos := "ref.go:210", after := #[], guard := none }) (v := (.slice (some ⟨gx, 0, none⟩) 3 gxc)) rfl (by kernel_rfl) (by kernel_rfl) (by kernel_rfl) (fun _ _ _ h => h) (Or.inl ⟨by rfl, ?_⟩) hHeld ?_
                    · rintro u ⟨p0, p1, p2⟩
                      go_simp <;> first | rfl | omega | exact hwa | kernel_rfl
                    try simp only [Act.put, List.setIfInBounds_toArray, List.set_cons_zero, List.set_cons_succ]
                    refine wpAnyH_take (i := 10) (oi := { dst := some 98, op := Op.indexAddr 118 (Operand.tmp 97) (Operand.const (Value.int IntKind.i64 2)), type := 0, pos := "ref.go:210", after := #[{ on := 9, ground := Ground.data }], guard := none }) (v := (.pointer (some ⟨gx, 2, none⟩))) rfl (by kernel_rfl) (by kernel_rfl) (by kernel_rfl) (fun _ _ _ h => h) (Or.inl ⟨by rfl, ?_⟩) hHeld ?_
                    · rintro u ⟨p0, p1, p2⟩
                      go_simp <;> first | rfl | omega | exact hwa | kernel_rfl
                    try simp only [Act.put, List.setIfInBounds_toArray, List.set_cons_zero, List.set_cons_succ]
                    refine wpAnyH_take (i := 11) (oi := { dst := some 99, op := Op.load 22 (Operand.tmp 98), type := 22, pos := "ref.go:210", after := #[{ on := 10, ground := Ground.data }], guard := none }) (v := (.int .u64 (xc : Int))) rfl (by kernel_rfl) (by kernel_rfl) (by kernel_rfl) (fun _ _ _ h => h) (Or.inl ⟨by rfl, ?_⟩) hHeld ?_
                    · rintro u ⟨p0, p1, p2⟩
                      go_simp <;> first | rfl | omega | exact hwa | kernel_rfl
                    try simp only [Act.put, List.setIfInBounds_toArray, List.set_cons_zero, List.set_cons_succ]
                    refine wpAnyH_take (i := 12) (oi := { dst := some 100, op := Op.move (Operand.tmp 12), type := 2, pos := "ref.go:210", after := #[], guard := none }) (v := (.int .i64 z)) rfl (by kernel_rfl) (by kernel_rfl) (by kernel_rfl) (fun _ _ _ h => h) (Or.inl ⟨by rfl, ?_⟩) hHeld ?_
                    · rintro u ⟨p0, p1, p2⟩
                      go_simp <;> first | rfl | omega | exact hwa | kernel_rfl
                    try simp only [Act.put, List.setIfInBounds_toArray, List.set_cons_zero, List.set_cons_succ]
                    refine wpAnyH_take (i := 13) (oi := { dst := some 101, op := Op.build 67 #[(0, Operand.tmp 93), (1, Operand.tmp 96), (2, Operand.tmp 99), (3, Operand.tmp 100)], type := 67, pos := "ref.go:210", after := #[{ on := 5, ground := Ground.data }, { on := 8, ground := Ground.data }, { on := 11, ground := Ground.data }, { on := 12, ground := Ground.data }], guard := none }) (v := (.agg #[.int .i64 (xa : Int), .int .u64 (xb : Int), .int .u64 (xc : Int), .int .i64 z])) rfl (by kernel_rfl) (by kernel_rfl) (by kernel_rfl) (fun _ _ _ h => h) (Or.inl ⟨by rfl, ?_⟩) hHeld ?_
                    · rintro u ⟨p0, p1, p2⟩
                      go_simp <;> first | rfl | omega | exact hwa | kernel_rfl
                    try simp only [Act.put, List.setIfInBounds_toArray, List.set_cons_zero, List.set_cons_succ]
                    generalize X2.drew = U4 at HU4 HUS4 RE4 RZ4 HO4 HB4 hHeld ⊢
                    clear hwa HU2 HUY REY RZY HOY HBY
                    refine wpAnyH_ready (rs := [1, 14]) (by kernel_rfl) (by simp) ?_
                    refine AllReadyH.cons (o := { dst := some 89, op := Op.load 23 (Operand.tmp 88), type := 23, pos := "ref.go:210", after := #[{ on := 0, ground := Ground.data }], guard := none }) rfl (fun Kq hKq => ?_) (AllReadyH.cons (o := { dst := some 102, op := Op.buildSlice 23 1 #[(0, Operand.tmp 101)], type := 23, pos := "ref.go:210", after := #[{ on := 13, ground := Ground.data }], guard := none }) rfl (fun Kq hKq => ?_) AllReadyH.nil)
                    · have e3 : U4.cell? ⟨be, 3, none⟩ = some (.slice va A.length vc) := RE4.out.cell 3
                      go_simp
                      refine hKq.out _ _ ⟨HU4.out.at 0 (by simp), HU4.out.at 1 (by simp), HU4.out.at 2 (by simp)⟩ (fun hHeldL => ?_)
                      clear hKq Kq e3
                      try simp only [Act.put, List.setIfInBounds_toArray, List.set_cons_zero, List.set_cons_succ]
                      refine wpAnyH_ready (rs := [14]) (by kernel_rfl) (by simp) ?_
                      refine AllReadyH.cons (o := { dst := some 102, op := Op.buildSlice 23 1 #[(0, Operand.tmp 101)], type := 23, pos := "ref.go:210", after := #[{ on := 13, ground := Ground.data }], guard := none }) rfl (fun Kq hKq => ?_) AllReadyH.nil
                      go_simp
                      have hb5 : Below U4.heap.size U4 (U4.alloc (.cells #[.int .i64 (xa : Int), .int .u64 (xb : Int), .int .u64 (xc : Int), .int .i64 z] TLine)) := (Below.refl _ _).alloc (Nat.le_refl _) _
                      have RX : Hid (Rw (U4.alloc (.cells #[.int .i64 (xa : Int), .int .u64 (xb : Int), .int .u64 (xc : Int), .int .i64 z] TLine)) U4.heap.size TLine [.int .i64 (xa : Int), .int .u64 (xb : Int), .int .u64 (xc : Int), .int .i64 z]) := Rw.new U4 [.int .i64 (xa : Int), .int .u64 (xb : Int), .int .u64 (xc : Int), .int .i64 z] TLine
                      have HB5 : Hid (Below lo w (U4.alloc (.cells #[.int .i64 (xa : Int), .int .u64 (xb : Int), .int .u64 (xc : Int), .int .i64 z] TLine))) := HB4.out.trans (hb5.mono (by rw [HLO.out]; exact HB4.out.size))
                      have HU5 := Lib.hid (HU4.out.later hb5)
                      have HUS5 := Lib.hid (HUS4.out.later hb5)
                      have RE5 := Lib.hid (RE4.out.later hb5)
                      have RZ5 := Lib.hid (RZ4.out.later hb5)
                      have HO5 := Lib.hid (own_later HO4.out hb5)
                      refine hKq.out _ _ ⟨HU5.out.at 0 (by simp), HU5.out.at 1 (by simp), HU5.out.at 2 (by simp)⟩ (fun hHeldB => ?_)
                      clear hKq Kq hb5
                      try simp only [Act.put, List.setIfInBounds_toArray, List.set_cons_zero, List.set_cons_succ]
                      obtain ⟨bx, hbx⟩ : ∃ bx, bx = U4.heap.size := ⟨_, rfl⟩
                      rw [← hbx] at RX ⊢
                      have HGB : Hid (gx < bx ∧ g < bx) := ⟨by rw [hbx]; exact HU4.out.lt, by rw [hbx]; exact HUS4.out.lt⟩
                      clear hbx
                      generalize U4.alloc (.cells #[.int .i64 (xa : Int), .int .u64 (xb : Int), .int .u64 (xc : Int), .int .i64 z] TLine) = U5 at HB5 RX HU5 HUS5 RE5 RZ5 HO5 ⊢
                      clear HU4 HUS4 RE4 RZ4 HO4 HB4
                      obtain ⟨y, V, hrun, hown, hgrow, _, _⟩ := run_append_own_at (P := Try.prog) (w := U5) (be + 1) TLines TLines TLine i4 z4 4 32 Try.underlying23 hk0 hk1 hk2 hk3 hk4 (by decide) _ A.length (flatL A) HO5.out ⟨bx, 0, none⟩ 1 1 [.int .i64 (xa : Int), .int .u64 (xb : Int), .int .u64 (xc : Int), .int .i64 z] rfl (rw_news RX.out) (by simp [Value.oneCell']) (by have h1 := HLT.out; have h2 := HL3.out; unfold maxLen; omega) (by have h1 := HLT.out; have h2 := HL3.out; omega) (RE5.out.lt)
                      obtain ⟨x, hx⟩ : ∃ x : Ln, x = ⟨(xa : Int), (xb : Int), (xc : Int), z⟩ := ⟨_, rfl⟩
                      obtain ⟨Qn, hQn⟩ : ∃ Qn, Qn = A ++ [x] := ⟨_, rfl⟩
                      have HOV : Hid (V.ownsRow (be + 1) TLine 4 y Qn.length (flatL Qn)) := by
                        show World.ownsRow _ _ _ _ _ _ _
                        rw [hQn, flatL_snoc, List.length_append, hx]
                        exact hown
                      have kg : Keeps (fun j => (Value.slice va A.length vc).ownBlock = some j) U5 V := (Keeps.refl _ U5).grown hgrow fun j hj => .inl hj
                      have HBV : Hid (Below lo w V) := Keeps.belowT HB5.out kg (fun j hj => by have := (HO5.out.lt j hj).1; have h1 := HZE.out; omega) (by rw [HLO.out]; exact HB5.out.size)
                      have RE6 := Lib.hid (RE5.out.keeps kg (fun e => by have := (HO5.out.lt be e).1; omega))
                      have RZ6 := Lib.hid (RZ5.out.keeps kg (fun e => by have := (HO5.out.lt bz e).1; have h1 := HZE.out; omega))
                      have HU6 := Lib.hid (HU5.out.keeps kg (us_ty HO5.out HU5.out))
                      have HUS6 := Lib.hid (HUS5.out.keeps kg (us_ty HO5.out HUS5.out))
                      have HG6 : Hid (G B true (headB a b c n ++ linesB Qn) t2 (CL a b c n Qn t2)) := by
                        show G _ _ _ _ _
                        rw [hQn, hx, ← pre_ln]
                        exact HG2.out
                      have HLR6 : Hid (Lr Qn) := by
                        show Lr _
                        rw [hQn, hx]
                        exact lr_snoc HLR.out HA1.out (by have := HX9.out; omega) (by have := HX9.out; omega)
                      have HQL : Hid (Qn.length = A.length + 1) := by
                        show _ = _
                        rw [hQn, List.length_append]
                        rfl
                      clear hQn hx HG2 HLR hown hgrow kg
                      refine wpAnyH_ready (rs := [15]) (by kernel_rfl) (by simp) ?_
                      refine AllReadyH.cons (o := { dst := some 103, op := Op.call { callee := Callee.builtin Builtin.append, args := #[Operand.tmp 89, Operand.tmp 102], argTypes := #[23, 23] }, type := 23, pos := "ref.go:210", after := #[{ on := 1, ground := Ground.data }, { on := 14, ground := Ground.data }], guard := none }) rfl (fun Kq hKq => ?_) AllReadyH.nil
                      refine step_app4 rfl _ _ TLines rfl (.slice va A.length vc) (some ⟨bx, 0, none⟩) 1 1 y (by rfl) (by rfl) hrun ?_
                      refine hKq.out _ _ ⟨HU6.out.at 0 (by simp), HU6.out.at 1 (by simp), HU6.out.at 2 (by simp)⟩ (fun hHeldA => ?_)
                      clear hKq Kq hrun HO5 HU5 HUS5 RE5 RZ5 HB5 RX
                      try simp only [Act.put, List.setIfInBounds_toArray, List.set_cons_zero, List.set_cons_succ]
                      obtain ⟨ya, yc, rfl⟩ := own_any HOV.out
                      refine wpAnyH_take (i := 16) (oi := { dst := some 104, op := Op.fieldAddr 25 (Operand.tmp 7) 3, type := 0, pos := "ref.go:210", after := #[{ on := 0, ground := Ground.phase }, { on := 1, ground := Ground.phase }, { on := 2, ground := Ground.phase }, { on := 3, ground := Ground.phase }, { on := 4, ground := Ground.phase }, { on := 5, ground := Ground.phase }, { on := 6, ground := Ground.phase }, { on := 7, ground := Ground.phase }, { on := 8, ground := Ground.phase }, { on := 9, ground := Ground.phase }, { on := 10, ground := Ground.phase }, { on := 11, ground := Ground.phase }, { on := 12, ground := Ground.phase }, { on := 13, ground := Ground.phase }, { on := 14, ground := Ground.phase }, { on := 15, ground := Ground.phase }], guard := none }) (v := (.pointer (some ⟨be, 3, none⟩))) rfl (by kernel_rfl) (by kernel_rfl) (by kernel_rfl) (fun _ _ _ h => h) (Or.inl ⟨by rfl, ?_⟩) hHeldA ?_
                      · rintro u ⟨p0, p1, p2⟩
                        go_simp <;> first | rfl | omega | kernel_rfl
                      try simp only [Act.put, List.setIfInBounds_toArray, List.set_cons_zero, List.set_cons_succ]
                      have o3 : V.cell? ⟨be, 3, none⟩ = some (.slice va A.length vc) := RE6.out.cell 3
                      have f3 : V.frozen? ⟨be, 3, none⟩ = false := RE6.out.frozen 3
                      have kp : Keeps (fun j => j = be) V (V.setCell ⟨be, 3, none⟩ (.slice ya Qn.length yc)) := (Keeps.refl (fun j => j = be) V).setCell be 3 _ (.inl rfl)
                      have HU7 := Lib.hid (HU6.out.keeps kp (by have h1 := HXG.out; omega))
                      refine wpAnyH_ready (rs := [17]) (by kernel_rfl) (by simp) ?_
                      refine AllReadyH.cons (o := { dst := none, op := Op.store 23 (Operand.tmp 104) (Operand.tmp 103), type := 0, pos := "ref.go:210", after := #[{ on := 16, ground := Ground.data }, { on := 15, ground := Ground.data }, { on := 15, ground := Ground.chain }, { on := 0, ground := Ground.phase }, { on := 1, ground := Ground.phase }, { on := 2, ground := Ground.phase }, { on := 3, ground := Ground.phase }, { on := 4, ground := Ground.phase }, { on := 5, ground := Ground.phase }, { on := 6, ground := Ground.phase }, { on := 7, ground := Ground.phase }, { on := 8, ground := Ground.phase }, { on := 9, ground := Ground.phase }, { on := 10, ground := Ground.phase }, { on := 11, ground := Ground.phase }, { on := 12, ground := Ground.phase }, { on := 13, ground := Ground.phase }, { on := 14, ground := Ground.phase }, { on := 15, ground := Ground.phase }], guard := none }) rfl (fun Kq hKq => ?_) AllReadyH.nil
                      go_simp
                      refine hKq.out _ _ ⟨HU7.out.at 0 (by simp), HU7.out.at 1 (by simp), HU7.out.at 2 (by simp)⟩ (fun hHeldS => ?_)
                      clear hKq Kq o3 f3
                      try simp only [Act.put, List.setIfInBounds_toArray, List.set_cons_zero, List.set_cons_succ]
                      have HB7 : Hid (Below lo w (V.setCell ⟨be, 3, none⟩ (.slice ya Qn.length yc))) := Keeps.belowT HBV.out kp (fun j hj => by have e1 : j = be := hj; have h1 := HZE.out; omega) (by rw [HLO.out]; exact HBV.out.size)
                      have RE7 : Hid (Rw (V.setCell ⟨be, 3, none⟩ (.slice ya Qn.length yc)) be TEn [.int .i64 (a : Int), .int .u8 (b : Int), .int .u64 (c : Int), .slice ya Qn.length yc]) := RE6.out.setCell 3 _
                      have RZ7 := Lib.hid (RZ6.out.keeps kp (by have h1 := HZE.out; omega))
                      have HUS7 := Lib.hid (HUS6.out.keeps kp (by have h1 := HZE.out; omega))
                      have HO7 := Lib.hid (own_keeps HOV.out kp (fun j hj e => by have e1 : j = be := e; have := (HOV.out.lt j hj).1; omega))
                      generalize V.setCell ⟨be, 3, none⟩ (.slice ya Qn.length yc) = V9 at HB7 RE7 RZ7 HUS7 HU7 HO7 hHeldS ⊢
                      clear kp HBV RE6 RZ6 HUS6 HU6 HOV HU7 hHeldS
                      clear hHeld
                      refine wpAnyH_done (by kernel_rfl) ?_ _
                      have hlt := HLT.out
                      have j2 : n ≤ 64 := HL3.out
                      rw [show (⟨t2.toArray⟩ : ByteArray) = bs t2 from rfl]
                      go_wp2_with fail
                      have hkx := HKX.out
                      have hql := HQL.out
                      go_roundg (n - (A.length + 1))
                      case measure => omega
                      case rel => exact ⟨Qn, .slice ya Qn.length yc, t2, by rw [hql]; simp, rfl, by omega, HO7, RE7, RZ7, HUS7, HB7, HG6, HLR6, HT2, by omega⟩
                    · go_simp
                      have hb5 : Below U4.heap.size U4 (U4.alloc (.cells #[.int .i64 (xa : Int), .int .u64 (xb : Int), .int .u64 (xc : Int), .int .i64 z] TLine)) := (Below.refl _ _).alloc (Nat.le_refl _) _
                      have RX : Hid (Rw (U4.alloc (.cells #[.int .i64 (xa : Int), .int .u64 (xb : Int), .int .u64 (xc : Int), .int .i64 z] TLine)) U4.heap.size TLine [.int .i64 (xa : Int), .int .u64 (xb : Int), .int .u64 (xc : Int), .int .i64 z]) := Rw.new U4 [.int .i64 (xa : Int), .int .u64 (xb : Int), .int .u64 (xc : Int), .int .i64 z] TLine
                      have HB5 : Hid (Below lo w (U4.alloc (.cells #[.int .i64 (xa : Int), .int .u64 (xb : Int), .int .u64 (xc : Int), .int .i64 z] TLine))) := HB4.out.trans (hb5.mono (by rw [HLO.out]; exact HB4.out.size))
                      have HU5 := Lib.hid (HU4.out.later hb5)
                      have HUS5 := Lib.hid (HUS4.out.later hb5)
                      have RE5 := Lib.hid (RE4.out.later hb5)
                      have RZ5 := Lib.hid (RZ4.out.later hb5)
                      have HO5 := Lib.hid (own_later HO4.out hb5)
                      refine hKq.out _ _ ⟨HU5.out.at 0 (by simp), HU5.out.at 1 (by simp), HU5.out.at 2 (by simp)⟩ (fun hHeldB => ?_)
                      clear hKq Kq hb5
                      try simp only [Act.put, List.setIfInBounds_toArray, List.set_cons_zero, List.set_cons_succ]
                      obtain ⟨bx, hbx⟩ : ∃ bx, bx = U4.heap.size := ⟨_, rfl⟩
                      rw [← hbx] at RX ⊢
                      have HGB : Hid (gx < bx ∧ g < bx) := ⟨by rw [hbx]; exact HU4.out.lt, by rw [hbx]; exact HUS4.out.lt⟩
                      clear hbx
                      generalize U4.alloc (.cells #[.int .i64 (xa : Int), .int .u64 (xb : Int), .int .u64 (xc : Int), .int .i64 z] TLine) = U5 at HB5 RX HU5 HUS5 RE5 RZ5 HO5 ⊢
                      clear HU4 HUS4 RE4 RZ4 HO4 HB4
                      refine wpAnyH_ready (rs := [1]) (by kernel_rfl) (by simp) ?_
                      refine AllReadyH.cons (o := { dst := some 89, op := Op.load 23 (Operand.tmp 88), type := 23, pos := "ref.go:210", after := #[{ on := 0, ground := Ground.data }], guard := none }) rfl (fun Kq hKq => ?_) AllReadyH.nil
                      have e3 : U5.cell? ⟨be, 3, none⟩ = some (.slice va A.length vc) := RE5.out.cell 3
                      go_simp
                      refine hKq.out _ _ ⟨HU5.out.at 0 (by simp), HU5.out.at 1 (by simp), HU5.out.at 2 (by simp)⟩ (fun hHeldL => ?_)
                      clear hKq Kq e3
                      try simp only [Act.put, List.setIfInBounds_toArray, List.set_cons_zero, List.set_cons_succ]
                      obtain ⟨y, V, hrun, hown, hgrow, _, _⟩ := run_append_own_at (P := Try.prog) (w := U5) (be + 1) TLines TLines TLine i4 z4 4 32 Try.underlying23 hk0 hk1 hk2 hk3 hk4 (by decide) _ A.length (flatL A) HO5.out ⟨bx, 0, none⟩ 1 1 [.int .i64 (xa : Int), .int .u64 (xb : Int), .int .u64 (xc : Int), .int .i64 z] rfl (rw_news RX.out) (by simp [Value.oneCell']) (by have h1 := HLT.out; have h2 := HL3.out; unfold maxLen; omega) (by have h1 := HLT.out; have h2 := HL3.out; omega) (RE5.out.lt)
                      obtain ⟨x, hx⟩ : ∃ x : Ln, x = ⟨(xa : Int), (xb : Int), (xc : Int), z⟩ := ⟨_, rfl⟩
                      obtain ⟨Qn, hQn⟩ : ∃ Qn, Qn = A ++ [x] := ⟨_, rfl⟩
                      have HOV : Hid (V.ownsRow (be + 1) TLine 4 y Qn.length (flatL Qn)) := by
                        show World.ownsRow _ _ _ _ _ _ _
                        rw [hQn, flatL_snoc, List.length_append, hx]
                        exact hown
                      have kg : Keeps (fun j => (Value.slice va A.length vc).ownBlock = some j) U5 V := (Keeps.refl _ U5).grown hgrow fun j hj => .inl hj
                      have HBV : Hid (Below lo w V) := Keeps.belowT HB5.out kg (fun j hj => by have := (HO5.out.lt j hj).1; have h1 := HZE.out; omega) (by rw [HLO.out]; exact HB5.out.size)
                      have RE6 := Lib.hid (RE5.out.keeps kg (fun e => by have := (HO5.out.lt be e).1; omega))
                      have RZ6 := Lib.hid (RZ5.out.keeps kg (fun e => by have := (HO5.out.lt bz e).1; have h1 := HZE.out; omega))
                      have HU6 := Lib.hid (HU5.out.keeps kg (us_ty HO5.out HU5.out))
                      have HUS6 := Lib.hid (HUS5.out.keeps kg (us_ty HO5.out HUS5.out))
                      have HG6 : Hid (G B true (headB a b c n ++ linesB Qn) t2 (CL a b c n Qn t2)) := by
                        show G _ _ _ _ _
                        rw [hQn, hx, ← pre_ln]
                        exact HG2.out
                      have HLR6 : Hid (Lr Qn) := by
                        show Lr _
                        rw [hQn, hx]
                        exact lr_snoc HLR.out HA1.out (by have := HX9.out; omega) (by have := HX9.out; omega)
                      have HQL : Hid (Qn.length = A.length + 1) := by
                        show _ = _
                        rw [hQn, List.length_append]
                        rfl
                      clear hQn hx HG2 HLR hown hgrow kg
                      refine wpAnyH_ready (rs := [15]) (by kernel_rfl) (by simp) ?_
                      refine AllReadyH.cons (o := { dst := some 103, op := Op.call { callee := Callee.builtin Builtin.append, args := #[Operand.tmp 89, Operand.tmp 102], argTypes := #[23, 23] }, type := 23, pos := "ref.go:210", after := #[{ on := 1, ground := Ground.data }, { on := 14, ground := Ground.data }], guard := none }) rfl (fun Kq hKq => ?_) AllReadyH.nil
                      refine step_app4 rfl _ _ TLines rfl (.slice va A.length vc) (some ⟨bx, 0, none⟩) 1 1 y (by rfl) (by rfl) hrun ?_
                      refine hKq.out _ _ ⟨HU6.out.at 0 (by simp), HU6.out.at 1 (by simp), HU6.out.at 2 (by simp)⟩ (fun hHeldA => ?_)
                      clear hKq Kq hrun HO5 HU5 HUS5 RE5 RZ5 HB5 RX
                      try simp only [Act.put, List.setIfInBounds_toArray, List.set_cons_zero, List.set_cons_succ]
                      obtain ⟨ya, yc, rfl⟩ := own_any HOV.out
                      refine wpAnyH_take (i := 16) (oi := { dst := some 104, op := Op.fieldAddr 25 (Operand.tmp 7) 3, type := 0, pos := "ref.go:210", after := #[{ on := 0, ground := Ground.phase }, { on := 1, ground := Ground.phase }, { on := 2, ground := Ground.phase }, { on := 3, ground := Ground.phase }, { on := 4, ground := Ground.phase }, { on := 5, ground := Ground.phase }, { on := 6, ground := Ground.phase }, { on := 7, ground := Ground.phase }, { on := 8, ground := Ground.phase }, { on := 9, ground := Ground.phase }, { on := 10, ground := Ground.phase }, { on := 11, ground := Ground.phase }, { on := 12, ground := Ground.phase }, { on := 13, ground := Ground.phase }, { on := 14, ground := Ground.phase }, { on := 15, ground := Ground.phase }], guard := none }) (v := (.pointer (some ⟨be, 3, none⟩))) rfl (by kernel_rfl) (by kernel_rfl) (by kernel_rfl) (fun _ _ _ h => h) (Or.inl ⟨by rfl, ?_⟩) hHeldA ?_
                      · rintro u ⟨p0, p1, p2⟩
                        go_simp <;> first | rfl | omega | kernel_rfl
                      try simp only [Act.put, List.setIfInBounds_toArray, List.set_cons_zero, List.set_cons_succ]
                      have o3 : V.cell? ⟨be, 3, none⟩ = some (.slice va A.length vc) := RE6.out.cell 3
                      have f3 : V.frozen? ⟨be, 3, none⟩ = false := RE6.out.frozen 3
                      have kp : Keeps (fun j => j = be) V (V.setCell ⟨be, 3, none⟩ (.slice ya Qn.length yc)) := (Keeps.refl (fun j => j = be) V).setCell be 3 _ (.inl rfl)
                      have HU7 := Lib.hid (HU6.out.keeps kp (by have h1 := HXG.out; omega))
                      refine wpAnyH_ready (rs := [17]) (by kernel_rfl) (by simp) ?_
                      refine AllReadyH.cons (o := { dst := none, op := Op.store 23 (Operand.tmp 104) (Operand.tmp 103), type := 0, pos := "ref.go:210", after := #[{ on := 16, ground := Ground.data }, { on := 15, ground := Ground.data }, { on := 15, ground := Ground.chain }, { on := 0, ground := Ground.phase }, { on := 1, ground := Ground.phase }, { on := 2, ground := Ground.phase }, { on := 3, ground := Ground.phase }, { on := 4, ground := Ground.phase }, { on := 5, ground := Ground.phase }, { on := 6, ground := Ground.phase }, { on := 7, ground := Ground.phase }, { on := 8, ground := Ground.phase }, { on := 9, ground := Ground.phase }, { on := 10, ground := Ground.phase }, { on := 11, ground := Ground.phase }, { on := 12, ground := Ground.phase }, { on := 13, ground := Ground.phase }, { on := 14, ground := Ground.phase }, { on := 15, ground := Ground.phase }], guard := none }) rfl (fun Kq hKq => ?_) AllReadyH.nil
                      go_simp
                      refine hKq.out _ _ ⟨HU7.out.at 0 (by simp), HU7.out.at 1 (by simp), HU7.out.at 2 (by simp)⟩ (fun hHeldS => ?_)
                      clear hKq Kq o3 f3
                      try simp only [Act.put, List.setIfInBounds_toArray, List.set_cons_zero, List.set_cons_succ]
                      have HB7 : Hid (Below lo w (V.setCell ⟨be, 3, none⟩ (.slice ya Qn.length yc))) := Keeps.belowT HBV.out kp (fun j hj => by have e1 : j = be := hj; have h1 := HZE.out; omega) (by rw [HLO.out]; exact HBV.out.size)
                      have RE7 : Hid (Rw (V.setCell ⟨be, 3, none⟩ (.slice ya Qn.length yc)) be TEn [.int .i64 (a : Int), .int .u8 (b : Int), .int .u64 (c : Int), .slice ya Qn.length yc]) := RE6.out.setCell 3 _
                      have RZ7 := Lib.hid (RZ6.out.keeps kp (by have h1 := HZE.out; omega))
                      have HUS7 := Lib.hid (HUS6.out.keeps kp (by have h1 := HZE.out; omega))
                      have HO7 := Lib.hid (own_keeps HOV.out kp (fun j hj e => by have e1 : j = be := e; have := (HOV.out.lt j hj).1; omega))
                      generalize V.setCell ⟨be, 3, none⟩ (.slice ya Qn.length yc) = V9 at HB7 RE7 RZ7 HUS7 HU7 HO7 hHeldS ⊢
                      clear kp HBV RE6 RZ6 HUS6 HU6 HOV HU7 hHeldS
                      clear hHeld
                      refine wpAnyH_done (by kernel_rfl) ?_ _
                      have hlt := HLT.out
                      have j2 : n ≤ 64 := HL3.out
                      rw [show (⟨t2.toArray⟩ : ByteArray) = bs t2 from rfl]
                      go_wp2_with fail
                      have hkx := HKX.out
                      have hql := HQL.out
                      go_roundg (n - (A.length + 1))
                      case measure => omega
                      case rel => exact ⟨Qn, .slice ya Qn.length yc, t2, by rw [hql]; simp, rfl, by omega, HO7, RE7, RZ7, HUS7, HB7, HG6, HLR6, HT2, by omega⟩
                · have HNO : Hid (NoEn B) := HNN.out h1
                  have p1 : (9999 : Int) < (xa : Int) := by omega
                  clear h1 HNN HY
                  cases q with
                  | none =>
                    have R9 : Rw (X2.setCells bz 0 #[.int .i64 0, .int .u8 0, .int .u64 0, .slice none 0 0].toList) bz TEn [.int .i64 0, .int .u8 0, .int .u64 0, .slice none 0 0] := RZY.out.setCells (cs := [.int .i64 0, .int .u8 0, .int .u64 0, .slice none 0 0]) 0 (by simp)
                    have kp9 : Keeps (fun j => j = bz) X2 (X2.setCells bz 0 #[.int .i64 0, .int .u8 0, .int .u64 0, .slice none 0 0].toList) := (Keeps.refl (fun j => j = bz) _).setCells bz 0 _ (.inl rfl)
                    have B9 : Below lo w (X2.setCells bz 0 #[.int .i64 0, .int .u8 0, .int .u64 0, .slice none 0 0].toList) := Keeps.belowT HBY.out kp9 (fun j hj => by rw [hj]; exact HZL.out) (by rw [HLO.out]; exact HBY.out.size)
                    have RZ9 := Lib.hid R9
                    have HB9 := Lib.hid B9
                    have KP9 := Lib.hid kp9
                    clear R9 B9 kp9
                    go_wp2_with (with_reducible refine wpList_store_mid rfl TEn _ _ rfl bz 0 #[.int .i64 0, .int .u8 0, .int .u64 0, .slice none 0 0] rfl rfl ?thr ?inf ?one ?_)
                    case thr => exact RZY.out.there 0 4 (by simp)
                    case inf => simpa using HINF.out
                    case one => simp [Value.oneCell']
                    generalize X2.setCells bz 0 #[.int .i64 0, .int .u8 0, .int .u64 0, .slice none 0 0].toList = W9 at RZ9 HB9 KP9 ⊢
                    go_wp2_with fail
                    have r0 : W9.cell? ⟨bz, 0, none⟩ = some (.int .i64 0) := RZ9.out.cell 0
                    have r1 : W9.cell? ⟨bz, 1, none⟩ = some (.int .u8 0) := RZ9.out.cell 1
                    have r2 : W9.cell? ⟨bz, 2, none⟩ = some (.int .u64 0) := RZ9.out.cell 2
                    have r3 : W9.cell? ⟨bz, 3, none⟩ = some (.slice none 0 0) := RZ9.out.cell 3
                    refine bodyPost_ret (v := .tuple #[.agg #[.int .i64 0, .int .u8 0, .int .u64 0, .slice none 0 0], .int .i64 5]) (by simp [results, Try.results28, go_sem, r0, r1, r2, r3]) rfl ?_
                    exact ⟨by rw [← HLO.out]; exact HB9.out, .inr ⟨HNO.out, rfl⟩⟩
                  | some y =>
                    obtain ⟨nz, t2⟩ := y
                    generalize Tal.unz nz = z
                    have R9 : Rw (X2.setCells bz 0 #[.int .i64 0, .int .u8 0, .int .u64 0, .slice none 0 0].toList) bz TEn [.int .i64 0, .int .u8 0, .int .u64 0, .slice none 0 0] := RZY.out.setCells (cs := [.int .i64 0, .int .u8 0, .int .u64 0, .slice none 0 0]) 0 (by simp)
                    have kp9 : Keeps (fun j => j = bz) X2 (X2.setCells bz 0 #[.int .i64 0, .int .u8 0, .int .u64 0, .slice none 0 0].toList) := (Keeps.refl (fun j => j = bz) _).setCells bz 0 _ (.inl rfl)
                    have B9 : Below lo w (X2.setCells bz 0 #[.int .i64 0, .int .u8 0, .int .u64 0, .slice none 0 0].toList) := Keeps.belowT HBY.out kp9 (fun j hj => by rw [hj]; exact HZL.out) (by rw [HLO.out]; exact HBY.out.size)
                    have RZ9 := Lib.hid R9
                    have HB9 := Lib.hid B9
                    have KP9 := Lib.hid kp9
                    clear R9 B9 kp9
                    go_wp2_with (with_reducible refine wpList_store_mid rfl TEn _ _ rfl bz 0 #[.int .i64 0, .int .u8 0, .int .u64 0, .slice none 0 0] rfl rfl ?thr ?inf ?one ?_)
                    case thr => exact RZY.out.there 0 4 (by simp)
                    case inf => simpa using HINF.out
                    case one => simp [Value.oneCell']
                    generalize X2.setCells bz 0 #[.int .i64 0, .int .u8 0, .int .u64 0, .slice none 0 0].toList = W9 at RZ9 HB9 KP9 ⊢
                    go_wp2_with fail
                    have r0 : W9.cell? ⟨bz, 0, none⟩ = some (.int .i64 0) := RZ9.out.cell 0
                    have r1 : W9.cell? ⟨bz, 1, none⟩ = some (.int .u8 0) := RZ9.out.cell 1
                    have r2 : W9.cell? ⟨bz, 2, none⟩ = some (.int .u64 0) := RZ9.out.cell 2
                    have r3 : W9.cell? ⟨bz, 3, none⟩ = some (.slice none 0 0) := RZ9.out.cell 3
                    refine bodyPost_ret (v := .tuple #[.agg #[.int .i64 0, .int .u8 0, .int .u64 0, .slice none 0 0], .int .i64 5]) (by simp [results, Try.results28, go_sem, r0, r1, r2, r3]) rfl ?_
                    exact ⟨by rw [← HLO.out]; exact HB9.out, .inr ⟨HNO.out, rfl⟩⟩
            · have hAl : A.length = n := by omega
              have HAL := Lib.hid hAl
              have j1 : ¬ (A.length : Int) < (n : Int) := by omega
              clear hlt hkx hA9 hAl
              have e0 : wr.cell? ⟨be, 0, none⟩ = some (.int .i64 (a : Int)) := RE.out.cell 0
              have e1 : wr.cell? ⟨be, 1, none⟩ = some (.int .u8 (b : Int)) := RE.out.cell 1
              have e2 : wr.cell? ⟨be, 2, none⟩ = some (.int .u64 (c : Int)) := RE.out.cell 2
              have e3 : wr.cell? ⟨be, 3, none⟩ = some (.slice va A.length vc) := RE.out.cell 3
              have HLN : Hid (Lns wr va A) := by
                obtain ⟨a', c', he, hln, _⟩ := lns_own HO.out
                obtain ⟨rfl, _⟩ := (Value.slice.injEq _ _ _ _ _ _).mp he
                exact hln
              have HER : Hid (EnR (b : Int) (c : Int) A) := ⟨by have := HL2.out; omega, by have := HC9.out; omega, HLR.out⟩
              have KC := Lib.hid (rputE_c (a : Int) (b : Int) (c : Int) A va vc wr HLN.out (by have h1 := HAL.out; have h2 := HL3.out; omega) HER.out)
              clear j2
              go_wp2_with fail
              refine KC.out.mono ?_
              rintro e9 wk ⟨hbk, hr9⟩
              have HBK : Hid (Below lo w wk) := HB.out.trans (hbk.mono (by rw [HLO.out]; exact HB.out.size))
              have RZK := Lib.hid (RZ.out.later hbk)
              have REK := Lib.hid (RE.out.later hbk)
              have HOK := Lib.hid (own_later HO.out hbk)
              clear e0 e1 e2 e3 c3 KC hbk j1 HB RZ RE HUS
              rcases hr9 with ⟨hc0, he⟩ | ⟨hc0, he⟩
              · subst he
                have HNO : Hid (NoEn B) := fun d k s L hE => by
                  obtain ⟨g1, g2, g3, g4, _⟩ := HG.out.same rfl HAL.out hE
                  have := hE.c
                  rw [g1, g2, g4] at this
                  exact hc0 this
                generalize chkM (a : Int) (b : Int) A = ch at hc0 ⊢
                have n1 : (ch == 0) = false := beq_eq_false_iff_ne.2 hc0
                have n2 : (ch != 0) = true := by simpa using hc0
                have HNC := Lib.hid hc0
                clear hc0 HO
                have R9 : Rw (wk.setCells bz 0 #[.int .i64 0, .int .u8 0, .int .u64 0, .slice none 0 0].toList) bz TEn [.int .i64 0, .int .u8 0, .int .u64 0, .slice none 0 0] := RZK.out.setCells (cs := [.int .i64 0, .int .u8 0, .int .u64 0, .slice none 0 0]) 0 (by simp)
                have kp9 : Keeps (fun j => j = bz) wk (wk.setCells bz 0 #[.int .i64 0, .int .u8 0, .int .u64 0, .slice none 0 0].toList) := (Keeps.refl (fun j => j = bz) _).setCells bz 0 _ (.inl rfl)
                have B9 : Below lo w (wk.setCells bz 0 #[.int .i64 0, .int .u8 0, .int .u64 0, .slice none 0 0].toList) := Keeps.belowT HBK.out kp9 (fun j hj => by rw [hj]; exact HZL.out) (by rw [HLO.out]; exact HBK.out.size)
                have RZ9 := Lib.hid R9
                have HB9 := Lib.hid B9
                have KP9 := Lib.hid kp9
                clear R9 B9 kp9
                go_wp2_with (with_reducible refine wpList_store_mid rfl TEn _ _ rfl bz 0 #[.int .i64 0, .int .u8 0, .int .u64 0, .slice none 0 0] rfl rfl ?thr ?inf ?one ?_)
                case thr => exact RZK.out.there 0 4 (by simp)
                case inf => simpa using HINF.out
                case one => simp [Value.oneCell']
                generalize wk.setCells bz 0 #[.int .i64 0, .int .u8 0, .int .u64 0, .slice none 0 0].toList = W9 at RZ9 HB9 KP9 ⊢
                go_wp2_with fail
                have r0 : W9.cell? ⟨bz, 0, none⟩ = some (.int .i64 0) := RZ9.out.cell 0
                have r1 : W9.cell? ⟨bz, 1, none⟩ = some (.int .u8 0) := RZ9.out.cell 1
                have r2 : W9.cell? ⟨bz, 2, none⟩ = some (.int .u64 0) := RZ9.out.cell 2
                have r3 : W9.cell? ⟨bz, 3, none⟩ = some (.slice none 0 0) := RZ9.out.cell 3
                refine bodyPost_ret (v := .tuple #[.agg #[.int .i64 0, .int .u8 0, .int .u64 0, .slice none 0 0], .int .i64 5]) (by simp [results, Try.results28, go_sem, r0, r1, r2, r3]) rfl ?_
                exact ⟨by rw [← HLO.out]; exact HB9.out, .inr ⟨HNO.out, rfl⟩⟩
              · subst he
                by_cases hq : enB (a : Int) (b : Int) (c : Int) A = B
                · have HYES : Hid (IsEn B (a : Int) (b : Int) (c : Int) A) := ⟨hc0, HER.out, hq⟩
                  rw [hq]
                  have e0 : wk.cell? ⟨be, 0, none⟩ = some (.int .i64 (a : Int)) := REK.out.cell 0
                  have e1 : wk.cell? ⟨be, 1, none⟩ = some (.int .u8 (b : Int)) := REK.out.cell 1
                  have e2 : wk.cell? ⟨be, 2, none⟩ = some (.int .u64 (c : Int)) := REK.out.cell 2
                  have e3 : wk.cell? ⟨be, 3, none⟩ = some (.slice va A.length vc) := REK.out.cell 3
                  clear hq hc0 HO
                  have R9 : Rw (wk.setCells bz 0 #[.int .i64 (a : Int), .int .u8 (b : Int), .int .u64 (c : Int), .slice va A.length vc].toList) bz TEn [.int .i64 (a : Int), .int .u8 (b : Int), .int .u64 (c : Int), .slice va A.length vc] := RZK.out.setCells (cs := [.int .i64 (a : Int), .int .u8 (b : Int), .int .u64 (c : Int), .slice va A.length vc]) 0 (by simp)
                  have kp9 : Keeps (fun j => j = bz) wk (wk.setCells bz 0 #[.int .i64 (a : Int), .int .u8 (b : Int), .int .u64 (c : Int), .slice va A.length vc].toList) := (Keeps.refl (fun j => j = bz) _).setCells bz 0 _ (.inl rfl)
                  have B9 : Below lo w (wk.setCells bz 0 #[.int .i64 (a : Int), .int .u8 (b : Int), .int .u64 (c : Int), .slice va A.length vc].toList) := Keeps.belowT HBK.out kp9 (fun j hj => by rw [hj]; exact HZL.out) (by rw [HLO.out]; exact HBK.out.size)
                  have RZ9 := Lib.hid R9
                  have HB9 := Lib.hid B9
                  have KP9 := Lib.hid kp9
                  clear R9 B9 kp9
                  go_wp2_with (with_reducible refine wpList_store_mid rfl TEn _ _ rfl bz 0 #[.int .i64 (a : Int), .int .u8 (b : Int), .int .u64 (c : Int), .slice va A.length vc] rfl rfl ?thr ?inf ?one ?_)
                  case thr => exact RZK.out.there 0 4 (by simp)
                  case inf => simpa using HINF.out
                  case one => simp [Value.oneCell']
                  generalize wk.setCells bz 0 #[.int .i64 (a : Int), .int .u8 (b : Int), .int .u64 (c : Int), .slice va A.length vc].toList = W9 at RZ9 HB9 KP9 ⊢
                  go_wp2_with fail
                  have HO9 := Lib.hid (own_keeps HOK.out KP9.out (fun j hj e => by have e1 : j = bz := e; have h1 := (HOK.out.lt j hj).1; have h2 := HZE.out; omega))
                  have r0 : W9.cell? ⟨bz, 0, none⟩ = some (.int .i64 (a : Int)) := RZ9.out.cell 0
                  have r1 : W9.cell? ⟨bz, 1, none⟩ = some (.int .u8 (b : Int)) := RZ9.out.cell 1
                  have r2 : W9.cell? ⟨bz, 2, none⟩ = some (.int .u64 (c : Int)) := RZ9.out.cell 2
                  have r3 : W9.cell? ⟨bz, 3, none⟩ = some (.slice va A.length vc) := RZ9.out.cell 3
                  refine bodyPost_ret (v := .tuple #[.agg #[.int .i64 (a : Int), .int .u8 (b : Int), .int .u64 (c : Int), .slice va A.length vc], .int .i64 0]) (by simp [results, Try.results28, go_sem, r0, r1, r2, r3]) rfl ?_
                  exact ⟨by rw [← HLO.out]; exact HB9.out, .inl ⟨(a : Int), (b : Int), (c : Int), A, _, HYES.out, rfl, own_low HO9.out (by rw [← HLO.out]; have h2 := HZE.out; omega)⟩⟩
                · have HNO : Hid (NoEn B) := fun d k s L hE => by
                    obtain ⟨g1, g2, g3, g4, _⟩ := HG.out.same rfl HAL.out hE
                    have := hE.b
                    rw [g1, g2, g3, g4] at this
                    exact hq this
                  obtain ⟨X, hX⟩ : ∃ X, X = enB (a : Int) (b : Int) (c : Int) A := ⟨_, rfl⟩
                  rw [← hX] at hq ⊢
                  have hs2 : ¬ (bs X).toList = (bs B).toList := by rw [ByteArray.toList_eq, ByteArray.toList_eq, bs_list, bs_list]; exact hq
                  have hs1 : ((bs X).toList == (bs B).toList) = false := beq_eq_false_iff_ne.2 hs2
                  clear hX hq hc0 HO
                  generalize bs X = sx at hs1 hs2 ⊢
                  have R9 : Rw (wk.setCells bz 0 #[.int .i64 0, .int .u8 0, .int .u64 0, .slice none 0 0].toList) bz TEn [.int .i64 0, .int .u8 0, .int .u64 0, .slice none 0 0] := RZK.out.setCells (cs := [.int .i64 0, .int .u8 0, .int .u64 0, .slice none 0 0]) 0 (by simp)
                  have kp9 : Keeps (fun j => j = bz) wk (wk.setCells bz 0 #[.int .i64 0, .int .u8 0, .int .u64 0, .slice none 0 0].toList) := (Keeps.refl (fun j => j = bz) _).setCells bz 0 _ (.inl rfl)
                  have B9 : Below lo w (wk.setCells bz 0 #[.int .i64 0, .int .u8 0, .int .u64 0, .slice none 0 0].toList) := Keeps.belowT HBK.out kp9 (fun j hj => by rw [hj]; exact HZL.out) (by rw [HLO.out]; exact HBK.out.size)
                  have RZ9 := Lib.hid R9
                  have HB9 := Lib.hid B9
                  have KP9 := Lib.hid kp9
                  clear R9 B9 kp9
                  go_wp2_with (with_reducible refine wpList_store_mid rfl TEn _ _ rfl bz 0 #[.int .i64 0, .int .u8 0, .int .u64 0, .slice none 0 0] rfl rfl ?thr ?inf ?one ?_)
                  case thr => exact RZK.out.there 0 4 (by simp)
                  case inf => simpa using HINF.out
                  case one => simp [Value.oneCell']
                  generalize wk.setCells bz 0 #[.int .i64 0, .int .u8 0, .int .u64 0, .slice none 0 0].toList = W9 at RZ9 HB9 KP9 ⊢
                  go_wp2_with fail
                  have r0 : W9.cell? ⟨bz, 0, none⟩ = some (.int .i64 0) := RZ9.out.cell 0
                  have r1 : W9.cell? ⟨bz, 1, none⟩ = some (.int .u8 0) := RZ9.out.cell 1
                  have r2 : W9.cell? ⟨bz, 2, none⟩ = some (.int .u64 0) := RZ9.out.cell 2
                  have r3 : W9.cell? ⟨bz, 3, none⟩ = some (.slice none 0 0) := RZ9.out.cell 3
                  refine bodyPost_ret (v := .tuple #[.agg #[.int .i64 0, .int .u8 0, .int .u64 0, .slice none 0 0], .int .i64 5]) (by simp [results, Try.results28, go_sem, r0, r1, r2, r3]) rfl ?_
                  exact ⟨by rw [← HLO.out]; exact HB9.out, .inr ⟨HNO.out, rfl⟩⟩
        · have HNO : Hid (NoEn B) := HNN.out (fun h => h3 h.2.2)
          have m1 : (a : Int) ≤ 3652059 := by omega
          have m2 : (b : Int) ≤ 255 := by omega
          have m3 : (64 : Int) < (n : Int) := by omega
          clear h1 h2 h3 HY HNN
          have R9 : Rw (W2.setCells bz 0 #[.int .i64 0, .int .u8 0, .int .u64 0, .slice none 0 0].toList) bz TEn [.int .i64 0, .int .u8 0, .int .u64 0, .slice none 0 0] := RZ2.out.setCells (cs := [.int .i64 0, .int .u8 0, .int .u64 0, .slice none 0 0]) 0 (by simp)
          have kp9 : Keeps (fun j => j = bz) W2 (W2.setCells bz 0 #[.int .i64 0, .int .u8 0, .int .u64 0, .slice none 0 0].toList) := (Keeps.refl (fun j => j = bz) _).setCells bz 0 _ (.inl rfl)
          have B9 : Below lo w (W2.setCells bz 0 #[.int .i64 0, .int .u8 0, .int .u64 0, .slice none 0 0].toList) := Keeps.belowT HB2.out kp9 (fun j hj => by rw [hj]; exact HZL.out) (by rw [HLO.out]; exact HB2.out.size)
          have RZ9 := Lib.hid R9
          have HB9 := Lib.hid B9
          have KP9 := Lib.hid kp9
          clear R9 B9 kp9
          go_wp2_with (with_reducible refine wpList_store_mid rfl TEn _ _ rfl bz 0 #[.int .i64 0, .int .u8 0, .int .u64 0, .slice none 0 0] rfl rfl ?thr ?inf ?one ?_)
          case thr => exact RZ2.out.there 0 4 (by simp)
          case inf => simpa using HINF.out
          case one => simp [Value.oneCell']
          generalize W2.setCells bz 0 #[.int .i64 0, .int .u8 0, .int .u64 0, .slice none 0 0].toList = W9 at RZ9 HB9 KP9 ⊢
          go_wp2_with fail
          have r0 : W9.cell? ⟨bz, 0, none⟩ = some (.int .i64 0) := RZ9.out.cell 0
          have r1 : W9.cell? ⟨bz, 1, none⟩ = some (.int .u8 0) := RZ9.out.cell 1
          have r2 : W9.cell? ⟨bz, 2, none⟩ = some (.int .u64 0) := RZ9.out.cell 2
          have r3 : W9.cell? ⟨bz, 3, none⟩ = some (.slice none 0 0) := RZ9.out.cell 3
          refine bodyPost_ret (v := .tuple #[.agg #[.int .i64 0, .int .u8 0, .int .u64 0, .slice none 0 0], .int .i64 5]) (by simp [results, Try.results28, go_sem, r0, r1, r2, r3]) rfl ?_
          exact ⟨by rw [← HLO.out]; exact HB9.out, .inr ⟨HNO.out, rfl⟩⟩
      · have HNO : Hid (NoEn B) := HNN.out (fun h => h2 h.2.1)
        have m1 : (a : Int) ≤ 3652059 := by omega
        have m2 : (255 : Int) < (b : Int) := by omega
        clear h1 h2 HY HNN
        have R9 : Rw (W2.setCells bz 0 #[.int .i64 0, .int .u8 0, .int .u64 0, .slice none 0 0].toList) bz TEn [.int .i64 0, .int .u8 0, .int .u64 0, .slice none 0 0] := RZ2.out.setCells (cs := [.int .i64 0, .int .u8 0, .int .u64 0, .slice none 0 0]) 0 (by simp)
        have kp9 : Keeps (fun j => j = bz) W2 (W2.setCells bz 0 #[.int .i64 0, .int .u8 0, .int .u64 0, .slice none 0 0].toList) := (Keeps.refl (fun j => j = bz) _).setCells bz 0 _ (.inl rfl)
        have B9 : Below lo w (W2.setCells bz 0 #[.int .i64 0, .int .u8 0, .int .u64 0, .slice none 0 0].toList) := Keeps.belowT HB2.out kp9 (fun j hj => by rw [hj]; exact HZL.out) (by rw [HLO.out]; exact HB2.out.size)
        have RZ9 := Lib.hid R9
        have HB9 := Lib.hid B9
        have KP9 := Lib.hid kp9
        clear R9 B9 kp9
        go_wp2_with (with_reducible refine wpList_store_mid rfl TEn _ _ rfl bz 0 #[.int .i64 0, .int .u8 0, .int .u64 0, .slice none 0 0] rfl rfl ?thr ?inf ?one ?_)
        case thr => exact RZ2.out.there 0 4 (by simp)
        case inf => simpa using HINF.out
        case one => simp [Value.oneCell']
        generalize W2.setCells bz 0 #[.int .i64 0, .int .u8 0, .int .u64 0, .slice none 0 0].toList = W9 at RZ9 HB9 KP9 ⊢
        go_wp2_with fail
        have r0 : W9.cell? ⟨bz, 0, none⟩ = some (.int .i64 0) := RZ9.out.cell 0
        have r1 : W9.cell? ⟨bz, 1, none⟩ = some (.int .u8 0) := RZ9.out.cell 1
        have r2 : W9.cell? ⟨bz, 2, none⟩ = some (.int .u64 0) := RZ9.out.cell 2
        have r3 : W9.cell? ⟨bz, 3, none⟩ = some (.slice none 0 0) := RZ9.out.cell 3
        refine bodyPost_ret (v := .tuple #[.agg #[.int .i64 0, .int .u8 0, .int .u64 0, .slice none 0 0], .int .i64 5]) (by simp [results, Try.results28, go_sem, r0, r1, r2, r3]) rfl ?_
        exact ⟨by rw [← HLO.out]; exact HB9.out, .inr ⟨HNO.out, rfl⟩⟩
    · have HNO : Hid (NoEn B) := HNN.out (fun h => h1 h.1)
      have m1 : (3652059 : Int) < (a : Int) := by omega
      clear h1 HY HNN
      have R9 : Rw (W2.setCells bz 0 #[.int .i64 0, .int .u8 0, .int .u64 0, .slice none 0 0].toList) bz TEn [.int .i64 0, .int .u8 0, .int .u64 0, .slice none 0 0] := RZ2.out.setCells (cs := [.int .i64 0, .int .u8 0, .int .u64 0, .slice none 0 0]) 0 (by simp)
      have kp9 : Keeps (fun j => j = bz) W2 (W2.setCells bz 0 #[.int .i64 0, .int .u8 0, .int .u64 0, .slice none 0 0].toList) := (Keeps.refl (fun j => j = bz) _).setCells bz 0 _ (.inl rfl)
      have B9 : Below lo w (W2.setCells bz 0 #[.int .i64 0, .int .u8 0, .int .u64 0, .slice none 0 0].toList) := Keeps.belowT HB2.out kp9 (fun j hj => by rw [hj]; exact HZL.out) (by rw [HLO.out]; exact HB2.out.size)
      have RZ9 := Lib.hid R9
      have HB9 := Lib.hid B9
      have KP9 := Lib.hid kp9
      clear R9 B9 kp9
      go_wp2_with (with_reducible refine wpList_store_mid rfl TEn _ _ rfl bz 0 #[.int .i64 0, .int .u8 0, .int .u64 0, .slice none 0 0] rfl rfl ?thr ?inf ?one ?_)
      case thr => exact RZ2.out.there 0 4 (by simp)
      case inf => simpa using HINF.out
      case one => simp [Value.oneCell']
      generalize W2.setCells bz 0 #[.int .i64 0, .int .u8 0, .int .u64 0, .slice none 0 0].toList = W9 at RZ9 HB9 KP9 ⊢
      go_wp2_with fail
      have r0 : W9.cell? ⟨bz, 0, none⟩ = some (.int .i64 0) := RZ9.out.cell 0
      have r1 : W9.cell? ⟨bz, 1, none⟩ = some (.int .u8 0) := RZ9.out.cell 1
      have r2 : W9.cell? ⟨bz, 2, none⟩ = some (.int .u64 0) := RZ9.out.cell 2
      have r3 : W9.cell? ⟨bz, 3, none⟩ = some (.slice none 0 0) := RZ9.out.cell 3
      refine bodyPost_ret (v := .tuple #[.agg #[.int .i64 0, .int .u8 0, .int .u64 0, .slice none 0 0], .int .i64 5]) (by simp [results, Try.results28, go_sem, r0, r1, r2, r3]) rfl ?_
      exact ⟨by rw [← HLO.out]; exact HB9.out, .inr ⟨HNO.out, rfl⟩⟩
end
end Go.Proofs.Ytnblilonjpfdnaa.Jn
