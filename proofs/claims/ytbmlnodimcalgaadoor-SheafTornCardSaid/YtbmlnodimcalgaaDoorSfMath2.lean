/- Sheaves: what sectors begin with: plain mathematics. -/
import Derived.Test.YtbmlnodimcalgaaDoorSfMath
namespace Go.Proofs.YtbmlnodimcalgaaDoor.Sf
theorem leaf_of_get {x c : List UInt8} {n : Nat} (h : Lf.get x = some (n, c)) : n ≠ 0 ∧ n < 18446744073709551616 ∧ c.length = 48 ∧ c = Lf.mid x ∧ x = Lf.leaf n c := by
  by_cases hl : x.length = 64
  · have e : Lf.ends x = (Lf.headOf x, Lf.footOf x) := by unfold Lf.ends; rw [if_pos hl]
    unfold Lf.get at h
    rw [e] at h
    by_cases h0 : Lf.headOf x = 0 ∨ Lf.headOf x ≠ Lf.footOf x
    · rw [if_pos h0] at h; cases h
    · rw [if_neg h0] at h
      obtain ⟨rfl, rfl⟩ : Lf.headOf x = n ∧ Lf.mid x = c := by simpa using h
      have h1 : Lf.headOf x ≠ 0 := fun q => h0 (Or.inl q)
      have h2 : Lf.headOf x = Lf.footOf x := Classical.byContradiction fun q => h0 (Or.inr q)
      exact ⟨h1, Lf.num_lt8 _ (by simp; omega), Lf.mid_len x hl, rfl, ((Lf.leaf_iff x hl).2 h2).symm⟩
  · unfold Lf.get Lf.ends at h
    rw [if_neg hl] at h
    simp at h
theorem get_leaf (n : Nat) (c : List UInt8) (h0 : n ≠ 0) (hn : n < 18446744073709551616) (hc : c.length ≤ 48) : Lf.get (Lf.leaf n c) = some (n, Lf.full c) := by
  unfold Lf.get Lf.ends
  rw [if_pos (Lf.leaf_len n c hc)]
  simp only [Lf.head_leaf n c hn, Lf.foot_leaf n c hn hc, Lf.mid_leaf n c hc]
  simp [h0]
theorem take_app (l t : List UInt8) : ∀ (acc n : Nat) (r : List UInt8), Ta.take acc l = some (n, r) → Ta.take acc (l ++ t) = some (n, r ++ t) := by
  induction l with
  | nil => intro acc n r h; unfold Ta.take at h; cases h
  | cons c cs ih =>
    intro acc n r h
    unfold Ta.take at h
    rw [List.cons_append]
    unfold Ta.take
    split at h
    · cases h
    · rename_i h1
      rw [if_neg h1]
      split at h
      · rename_i h2
        rw [if_pos h2]
        obtain ⟨rfl, rfl⟩ : acc * 128 + c.toNat = n ∧ cs = r := by simpa using h
        rfl
      · rename_i h2
        rw [if_neg h2]
        split at h
        · cases h
        · rename_i h3
          rw [if_neg h3]
          exact ih _ _ _ h
/-- A leaf that bears the stamp. -/
def isOf (n : Nat) (x : List UInt8) : Bool := match Lf.get x with | some (k, _) => k == n | none => false
/-- The program's way: what sectors begin with. -/
def pget (L : List (List UInt8)) : Option (Nat × List UInt8 × Nat) :=
  match L with
  | [] => none
  | x :: _ =>
    match Lf.get x with
    | none => none
    | some (n, c) =>
      match Ta.take 0 c with
      | none => none
      | some (m, _) =>
        if 98304 < m ∨ L.length < many m then none
        else if (L.take (many m)).all (isOf n) then
          match Ta.takeText ((L.take (many m)).map Lf.mid).flatten with
          | none => none
          | some (s, r) => if r.all (· == 0) then some (n, s, many m) else none
        else none
/-- The sectors begin with a sheaf. -/
structure Is (L : List (List UInt8)) (n : Nat) (s : List UInt8) (k : Nat) : Prop where
  n0 : n ≠ 0
  nl : n < 18446744073709551616
  sl : s.length ≤ 98304
  kk : k = many s.length
  le : k ≤ L.length
  eq : L.take k = sheaf n s
theorem isOf_leaf {n : Nat} {x : List UInt8} (h : isOf n x = true) : (Lf.mid x).length = 48 ∧ x = Lf.leaf n (Lf.mid x) := by
  unfold isOf at h
  split at h
  · rename_i k c e
    obtain ⟨_, _, h3, h4, h5⟩ := leaf_of_get e
    obtain rfl : k = n := by simpa using h
    subst h4
    exact ⟨h3, h5⟩
  · cases h
theorem many_pos (n : Nat) : 1 ≤ many n := by unfold many Ta.num; simp; omega
theorem zeros_of {r : List UInt8} (h : r.all (· == 0) = true) : r = List.replicate r.length 0 := by
  rw [List.eq_replicate_iff]
  exact ⟨rfl, fun b hb => by simpa using (List.all_eq_true.1 h) b hb⟩
theorem is_of_pget {L : List (List UInt8)} {n k : Nat} {s : List UInt8} (h : pget L = some (n, s, k)) : Is L n s k := by
  unfold pget at h
  split at h
  · cases h
  · rename_i x L'
    split at h
    · cases h
    · rename_i n' c hx
      split at h
      · cases h
      · rename_i m r0 hm
        split at h
        · cases h
        · rename_i hle
          split at h
          · rename_i hall
            split at h
            · cases h
            · rename_i s' r ht
              split at h
              · rename_i hr
                obtain ⟨rfl, rfl, rfl⟩ : n' = n ∧ s' = s ∧ many m = k := by simpa using h
                obtain ⟨g0, g1, g2, g3, g4⟩ := leaf_of_get hx
                have hp := many_pos m
                have hT : (x :: L').take (many m) = x :: L'.take (many m - 1) := by
                  obtain ⟨q, hq⟩ : ∃ q, many m = q + 1 := ⟨many m - 1, by omega⟩
                  rw [hq]; rfl
                have hF : (((x :: L').take (many m)).map Lf.mid).flatten = c ++ ((L'.take (many m - 1)).map Lf.mid).flatten := by
                  rw [hT, List.map_cons, List.flatten_cons, ← g3]
                have hle1 : m ≤ 98304 := by omega
                have hle2 : many m ≤ (x :: L').length := by omega
                have e1 := take_app c ((L'.take (many m - 1)).map Lf.mid).flatten 0 m r0 hm
                rw [← hF] at e1
                have e2 := Ta.take_once _ _ _ _ e1
                unfold Ta.takeText at ht
                rw [e1] at ht
                simp only [] at ht
                split at ht
                · rename_i hlen
                  obtain ⟨t1, t2⟩ : (r0 ++ ((L'.take (many m - 1)).map Lf.mid).flatten).take m = s' ∧ (r0 ++ ((L'.take (many m - 1)).map Lf.mid).flatten).drop m = r := by simpa using ht
                  have hs : s'.length = m := by rw [← t1, List.length_take]; omega
                  have e3 : (((x :: L').take (many m)).map Lf.mid).flatten = text s' ++ List.replicate r.length 0 := by
                    rw [← zeros_of hr]
                    unfold text
                    rw [hs, List.append_assoc, ← t1, ← t2, List.take_append_drop, e2, Ta.up_zero]
                    rfl
                  have hall' := List.all_eq_true.1 hall
                  have hlP : (((x :: L').take (many m)).map Lf.mid).length = ((text s').length + 47) / 48 := by
                    rw [List.length_map, List.length_take, Nat.min_eq_left hle2]
                    unfold many text; rw [List.length_append, hs]
                  have e4 := pad_chunks _ (text s') r.length (fun d hd => by
                    obtain ⟨y, hy, rfl⟩ := List.mem_map.1 hd
                    exact (isOf_leaf (hall' y hy)).1) (text_pos s') hlP e3
                  refine ⟨g0, g1, by omega, by rw [hs], hle2, ?_⟩
                  have e5 : (x :: L').take (many m) = (((x :: L').take (many m)).map Lf.mid).map (Lf.leaf n') := by
                    rw [List.map_map]
                    conv => lhs; rw [← List.map_id ((x :: L').take (many m))]
                    exact List.map_congr_left fun y hy => (isOf_leaf (hall' y hy)).2
                  rw [e5, e4, List.map_map]
                  unfold sheaf
                  exact List.map_congr_left fun d hd => leaf_full n' d (chunks_small _ _ (Nat.le_refl _) d hd)
                · cases ht
              · cases h
          · cases h
theorem chunks_head (b : List UInt8) : ∃ t, chunks b = b.take 48 :: t := by
  by_cases h : b.length ≤ 48
  · exact ⟨[], by rw [chunks_one h, List.take_of_length_le h]⟩
  · exact ⟨_, chunks_more h⟩
theorem text_take (s : List UInt8) (hs : s.length ≤ 98304) (z : List UInt8) : Ta.take 0 (text s ++ z) = some (s.length, s ++ z) := by
  unfold text
  rw [List.append_assoc]
  exact Ta.take_back _ _ (by omega)
theorem head_take (s : List UInt8) (hs : s.length ≤ 98304) : ∃ r, Ta.take 0 (Lf.full ((text s).take 48)) = some (s.length, r) := by
  have h10 := (Ta.num_len s.length (by omega)).1
  unfold Lf.full text
  rw [List.take_append, List.take_of_length_le (by omega), List.append_assoc]
  exact ⟨_, Ta.take_back _ _ (by omega)⟩
theorem isOf_put (n : Nat) (c : List UInt8) (h0 : n ≠ 0) (hn : n < 18446744073709551616) (hc : c.length ≤ 48) : isOf n (Lf.leaf n c) = true := by
  unfold isOf; rw [get_leaf n c h0 hn hc]; simp
theorem pget_of_is {L : List (List UInt8)} {n k : Nat} {s : List UInt8} (h : Is L n s k) : pget L = some (n, s, k) := by
  obtain ⟨n0, nl, sl, rfl, le, eq⟩ := h
  have hp := many_pos s.length
  obtain ⟨q, hq⟩ : ∃ q, many s.length = q + 1 := ⟨many s.length - 1, by omega⟩
  cases L with
  | nil => simp at le; omega
  | cons x L' =>
    obtain ⟨t, ht⟩ := chunks_head (text s)
    have hx : x = Lf.leaf n ((text s).take 48) := by
      rw [hq] at eq
      unfold sheaf at eq
      rw [ht, List.map_cons, List.take_succ_cons] at eq
      exact (List.cons.inj eq).1
    have gx : Lf.get x = some (n, Lf.full ((text s).take 48)) := by rw [hx]; exact get_leaf n _ n0 nl (by simp; omega)
    obtain ⟨r0, hr0⟩ := head_take s sl
    have hall : ((x :: L').take (many s.length)).all (isOf n) = true := by
      rw [eq, List.all_eq_true]
      intro y hy
      obtain ⟨d, hd, rfl⟩ := List.mem_map.1 hy
      exact isOf_put n d n0 nl (chunks_small _ _ (Nat.le_refl _) d hd)
    have hflat : (((x :: L').take (many s.length)).map Lf.mid).flatten = text s ++ List.replicate (48 * (chunks (text s)).length - (text s).length) 0 := by
      rw [eq, ← chunks_pad _ _ (Nat.le_refl _)]
      unfold sheaf
      rw [List.map_map]
      congr 1
      exact List.map_congr_left fun d hd => Lf.mid_leaf n d (chunks_small _ _ (Nat.le_refl _) d hd)
    have htt : Ta.takeText (((x :: L').take (many s.length)).map Lf.mid).flatten = some (s, List.replicate (48 * (chunks (text s)).length - (text s).length) 0) := by
      unfold Ta.takeText
      rw [hflat, text_take s sl]
      simp
    unfold pget
    simp only [gx, hr0]
    rw [if_neg (by omega), if_pos hall, htt]
    simp
theorem takeText_text (s : List UInt8) (hs : s.length ≤ 98304) (z : List UInt8) : Ta.takeText (text s ++ z) = some (s, z) := by
  unfold Ta.takeText
  rw [text_take s hs]
  simp
/-- The document's way. -/
def rget (L : List (List UInt8)) : Option (Nat × List UInt8 × Nat) :=
  match L with
  | [] => none
  | x :: _ =>
    match Lf.get x with
    | none => none
    | some (n, _) =>
      match Ta.takeText ((L.takeWhile (isOf n)).map Lf.mid).flatten with
      | none => none
      | some (s, _) => if s.length ≤ 98304 ∧ many s.length ≤ L.length ∧ L.take (many s.length) = sheaf n s then some (n, s, many s.length) else none
theorem is_of_rget {L : List (List UInt8)} {n k : Nat} {s : List UInt8} (h : rget L = some (n, s, k)) : Is L n s k := by
  unfold rget at h
  split at h
  · cases h
  · split at h
    · cases h
    · rename_i n' c hx
      split at h
      · cases h
      · rename_i s' r ht
        split at h
        · rename_i hh
          obtain ⟨rfl, rfl, rfl⟩ : n' = n ∧ s' = s ∧ many s'.length = k := by simpa using h
          obtain ⟨g0, g1, _⟩ := leaf_of_get hx
          exact ⟨g0, g1, hh.1, rfl, hh.2.1, hh.2.2⟩
        · cases h
theorem rget_of_is {L : List (List UInt8)} {n k : Nat} {s : List UInt8} (h : Is L n s k) : rget L = some (n, s, k) := by
  obtain ⟨n0, nl, sl, rfl, le, eq⟩ := h
  have hp := many_pos s.length
  obtain ⟨q, hq⟩ : ∃ q, many s.length = q + 1 := ⟨many s.length - 1, by omega⟩
  cases L with
  | nil => simp at le; omega
  | cons x L' =>
    obtain ⟨t, ht⟩ := chunks_head (text s)
    have hx : x = Lf.leaf n ((text s).take 48) := by
      have eq' := eq
      rw [hq] at eq'
      unfold sheaf at eq'
      rw [ht, List.map_cons, List.take_succ_cons] at eq'
      exact (List.cons.inj eq').1
    have gx : Lf.get x = some (n, Lf.full ((text s).take 48)) := by rw [hx]; exact get_leaf n _ n0 nl (by simp; omega)
    have hall : ∀ y ∈ sheaf n s, isOf n y = true := by
      intro y hy
      obtain ⟨d, hd, rfl⟩ := List.mem_map.1 hy
      exact isOf_put n d n0 nl (chunks_small _ _ (Nat.le_refl _) d hd)
    have hw : (x :: L').takeWhile (isOf n) = sheaf n s ++ ((x :: L').drop (many s.length)).takeWhile (isOf n) := by
      conv => lhs; rw [← List.take_append_drop (many s.length) (x :: L'), eq]
      exact List.takeWhile_append_of_pos hall
    have hm : ((sheaf n s).map Lf.mid).flatten = text s ++ List.replicate (48 * (chunks (text s)).length - (text s).length) 0 := by
      rw [← chunks_pad _ _ (Nat.le_refl _)]
      unfold sheaf
      rw [List.map_map]
      congr 1
      exact List.map_congr_left fun d hd => Lf.mid_leaf n d (chunks_small _ _ (Nat.le_refl _) d hd)
    have htt : Ta.takeText (((x :: L').takeWhile (isOf n)).map Lf.mid).flatten = some (s, List.replicate (48 * (chunks (text s)).length - (text s).length) 0 ++ ((((x :: L').drop (many s.length)).takeWhile (isOf n)).map Lf.mid).flatten) := by
      rw [hw, List.map_append, List.flatten_append, hm, List.append_assoc]
      exact takeText_text s sl _
    unfold rget
    simp only [gx, htt]
    rw [if_pos ⟨sl, le, eq⟩]
theorem get_same (L : List (List UInt8)) : pget L = rget L := by
  cases h : pget L with
  | some v => obtain ⟨n, s, k⟩ := v; exact (rget_of_is (is_of_pget h)).symm
  | none =>
    cases h2 : rget L with
    | none => rfl
    | some v => obtain ⟨n, s, k⟩ := v; rw [pget_of_is (is_of_rget h2)] at h; cases h
/-- What the program tells of sectors is the sheaf that they begin with. -/
theorem pget_iff (L : List (List UInt8)) (n : Nat) (s : List UInt8) (k : Nat) : pget L = some (n, s, k) ↔ Is L n s k := ⟨is_of_pget, pget_of_is⟩
end Go.Proofs.YtbmlnodimcalgaaDoor.Sf
