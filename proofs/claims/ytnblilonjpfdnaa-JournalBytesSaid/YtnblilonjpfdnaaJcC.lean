/- Joined: ChSet ChIns ChSet2 ChOps ChValid ChAdd ChLeaf ChGets. -/
import Derived.Test.YtnblilonjpfdnaaJcB
import Derived.StillTailTactics
import Derived.Deep.DeepCutAuto
import Derived.Deep.LoopGhost
import Derived.Maps.AppendAt
section
namespace Go.Proofs.Ytnblilonjpfdnaa.Ch
open Go Go.RowKit Ck Go.Maps
section
variable {w : World} {c bm n : Nat} {tv : Value} {M : Int → Option Acc} {K : List Int}
def SetRes (c bm n : Nat) (tv : Value) (M : Int → Option Acc) (K : List Int) (k : Int) (x : Acc) (w : World) (e : Ending) (w' : World) : Prop :=
  e = .returned (.tuple #[]) ∧ ∃ (tv' : Value) (K' : List Int), At w' c bm tv' (n + 1) (upd M k x) K' ∧ K'.length ≤ K.length + 1 ∧ Keeps (Bs c bm tv) w w' ∧ ∀ j, Bs c bm tv' j → Bs c bm tv j ∨ w.heap.size ≤ j
set_option maxRecDepth 100000 in
set_option maxHeartbeats 1600000 in
theorem set_old (h : At w c bm tv n M K) (k : Int) (x : Acc) (hk : I64 k) (hn : n < 1000000) (hM : (M k).isSome = true) : Calls Try.prog 40 #[.pointer (some ⟨c, 0, none⟩), .int .i64 k, x.val] w (SetRes c bm n tv M K k x w) := by
  have H := Lib.hid h
  have hkey := key_of hk
  have HM := Lib.hid hM
  obtain ⟨D, h1, h2⟩ := h.mp
  have hown := Lib.hid h1
  have HA := Lib.hid h2
  obtain ⟨y, hy⟩ : ∃ y, y = (M k).getD Acc.zero := ⟨_, rfl⟩
  have HX : Hid (∀ v ps, accR v = some (D.atKey (.int .i64 k) Acc.zero.dat, ps) → v = y.val) := fun v ps hv => by
    rw [h2.at', ← hy] at hv
    exact accR_inv hv
  have HQ : Hid (Maps.has D (.int .i64 k) = true) := by show _ = _; rw [h2.has, hM]
  have c0 : w.cell? ⟨c, 0, none⟩ = some (.map (some bm)) := h.blk.cell 0
  have hlt := h.blk.lt
  clear h h1 h2 hy hM hk
  obtain ⟨ya, yb, yc, ys, yd, ye, yf⟩ := y
  obtain ⟨xa, xb, xc, xs, xd, xe, xf⟩ := x
  unfold Acc.val at HX ⊢
  simp only at HX ⊢
  go_enter Try.func40, Try.ntmps40
  go_upto_region 9 with (at_lookup; refine wpList_lookup_own_ok _ rfl _ _ TMap rfl TInt TAcc law Try.underlying84 accR (zeroA _) Acc.zero.dat [] (accR_val Acc.zero) bm n D rfl (hown.out.alloc _) _ _ rfl hkey ?_; intro v ps hv; obtain rfl := HX.out v ps hv; rw [HQ.out])
  have HB2 : Hid (Below w.heap.size w ((w.alloc (.cells #[.int .i64 xa, .int .i64 xb, .int .u8 xc, .string xs, .bool xd, .int .i64 xe, .int .i64 xf] TAcc)).alloc (.cells #[.int .i64 ya, .int .i64 yb, .int .u8 yc, .string ys, .bool yd, .int .i64 ye, .int .i64 yf] TAcc))) := ((Below.refl _ w).alloc (Nat.le_refl _) _).alloc (by simp) _
  have RX : Hid (Rw ((w.alloc (.cells #[.int .i64 xa, .int .i64 xb, .int .u8 xc, .string xs, .bool xd, .int .i64 xe, .int .i64 xf] TAcc)).alloc (.cells #[.int .i64 ya, .int .i64 yb, .int .u8 yc, .string ys, .bool yd, .int .i64 ye, .int .i64 yf] TAcc)) w.heap.size TAcc [.int .i64 xa, .int .i64 xb, .int .u8 xc, .string xs, .bool xd, .int .i64 xe, .int .i64 xf]) := (Rw.new w [.int .i64 xa, .int .i64 xb, .int .u8 xc, .string xs, .bool xd, .int .i64 xe, .int .i64 xf] TAcc).later ((Below.refl _ _).alloc (Nat.le_refl _) _)
  have H2 := Lib.hid (H.out.later HB2.out)
  have hown2 : Hid (((w.alloc (.cells #[.int .i64 xa, .int .i64 xb, .int .u8 xc, .string xs, .bool xd, .int .i64 xe, .int .i64 xf] TAcc)).alloc (.cells #[.int .i64 ya, .int .i64 yb, .int .u8 yc, .string ys, .bool yd, .int .i64 ye, .int .i64 yf] TAcc)).ownsMap Try.prog TInt accR bm n D) := (hown.out.alloc _).alloc _
  obtain ⟨D2, hD2⟩ : ∃ D2, D2 = D := ⟨_, rfl⟩
  rw [← hD2] at hown2
  clear c0 hlt
  generalize ((w.alloc (.cells #[.int .i64 xa, .int .i64 xb, .int .u8 xc, .string xs, .bool xd, .int .i64 xe, .int .i64 xf] TAcc)).alloc (.cells #[.int .i64 ya, .int .i64 yb, .int .u8 yc, .string ys, .bool yd, .int .i64 ye, .int .i64 yf] TAcc)) = W2 at HB2 RX H2 hown2 ⊢
  have d0 : W2.cell? ⟨w.heap.size, 0, none⟩ = some (.int .i64 xa) := RX.out.cell 0
  have d1 : W2.cell? ⟨w.heap.size, 1, none⟩ = some (.int .i64 xb) := RX.out.cell 1
  have d2 : W2.cell? ⟨w.heap.size, 2, none⟩ = some (.int .u8 xc) := RX.out.cell 2
  have d3 : W2.cell? ⟨w.heap.size, 3, none⟩ = some (.string xs) := RX.out.cell 3
  have d4 : W2.cell? ⟨w.heap.size, 4, none⟩ = some (.bool xd) := RX.out.cell 4
  have d5 : W2.cell? ⟨w.heap.size, 5, none⟩ = some (.int .i64 xe) := RX.out.cell 5
  have d6 : W2.cell? ⟨w.heap.size, 6, none⟩ = some (.int .i64 xf) := RX.out.cell 6
  have e0 : W2.cell? ⟨c, 0, none⟩ = some (.map (some bm)) := H2.out.blk.cell 0
  go_still_tail 6, (by kernel_rfl)
  change wpList _ _ _ _ _ W2.drew
  clear d0 d1 d2 d3 d4 d5 d6 e0
  go_wp2_with (at_mapUpdate; refine wpList_mapUpdate_in _ rfl _ _ _ TMap rfl TInt TAcc law Try.underlying84 accR bm n D2 rfl (hown2.out.drew) (by unfold maxLen; omega) _ _ _ rfl rfl hkey (Acc.dat ⟨xa, xb, xc, xs, xd, xe, xf⟩) [] rfl ?_; intro w1 hown1 hturn1)
  refine bodyPost_ret (results_none rfl _ _ _) rfl ?_
  have hg := hturn1.grown
  have HG : Keeps (Bs c bm tv) W2 w1 := ((Keeps.refl (Bs c bm tv) W2).drew).grown hg fun j hj => by cases hj; exact .inl (.inr (.inl rfl))
  obtain ⟨n1, n2, n3⟩ := H2.out.ne
  have KB : Keeps (fun j => j = bm) W2 w1 := ((Keeps.refl (fun j => j = bm) W2).drew).grown hg fun j hj => by cases hj; exact .inl rfl
  refine ⟨rfl, tv, K, ⟨H2.out.blk.keeps KB n1, ⟨_, hown1, ?_⟩, own_keeps H2.out.own KB fun j hj e => n3 (e ▸ hj), H.out.ks.old HM.out _⟩, Nat.le_succ _, (Keeps.of _ HB2.out).then HG fun j hj => .inl hj, fun j hj => .inl hj⟩
  rw [hD2]
  exact HA.out.put k ⟨xa, xb, xc, xs, xd, xe, xf⟩
end
end Go.Proofs.Ytnblilonjpfdnaa.Ch
end
section
namespace Go.Proofs.Ytnblilonjpfdnaa.Ch
open Go Go.RowKit Ck Go.Maps
abbrev TInts : TypeId := 82
theorem und_ints : Try.prog.underlying TInts = some (.slice (Try.prog.elem TInts)) := by kernel_rfl
theorem sz_int (w : World) : (Go.sizeOf (Try.prog.elem TInts)).run Try.prog w = .ok 1 w := by kernel_rfl
theorem slice_ints (g n cap e : Nat) (he : e ≤ n) (_hc : n ≤ cap) (u : World) :
    (Instr.sliceAt TInts (.slice (some ⟨g, 0, none⟩) n cap) (some (.int .i64 (e : Int))) none none).run Try.prog u = .ok (.slice (if cap = e then some ⟨g, 0, none⟩ else some ⟨g, e, none⟩) (n - e) (cap - e)) u := by
  rw [run_sliceAt_slice _ _ _ _ _ _ und_ints, run_slice_l _ _ _ _ _ und_ints .i64 (e : Int) (by omega) (by omega)]
  rw [sz_int]
  rcases Nat.eq_zero_or_pos e with rfl | h0
  · simp [Result.andThen, sliced, Addr.add]
  · simp [Result.andThen, sliced, Addr.add, show e ≠ 0 by omega]
/-- What is in the block then. -/
theorem ins_take {L : List Value} {K : List Int} {k : Int} {a : Nat} (ha : a ≤ K.length) (hL : K.length + 1 ≤ L.length) (ht : L.take (K.length + 1) = (K ++ [k]).map iv) :
    ((splice L (a + 1) ((K.drop a).map iv)).set a (iv k)).take (K.length + 1) = (ins K a k).map iv := by
  have hl : (splice L (a + 1) ((K.drop a).map iv)).length = L.length := length_splice _ _ _ (by simp; omega)
  have hcs : ((K.drop a).map iv).length = K.length - a := by simp
  apply List.ext_getElem?
  intro i
  by_cases hi : i < K.length + 1
  · rw [List.getElem?_take_of_lt hi]
    have hLi : L[i]? = ((K ++ [k]).map iv)[i]? := by rw [← ht, List.getElem?_take_of_lt hi]
    unfold ins
    rw [List.getElem?_map]
    by_cases h1 : i < a
    · rw [List.getElem?_set_ne (by omega), List.getElem?_append_left (by simp; omega), List.getElem?_take_of_lt h1]
      unfold splice
      rw [List.getElem?_append_left (by simp; omega), List.getElem?_take_of_lt (by omega), hLi, List.getElem?_map, List.getElem?_append_left (by omega)]
    · by_cases h2 : i = a
      · subst h2
        have e0 : i - (K.take i).length = 0 := by simp; omega
        rw [List.getElem?_set_self (by omega), List.getElem?_append_right (by simp; omega), e0]
        rfl
      · obtain ⟨j, rfl⟩ : ∃ j, i = a + 1 + j := ⟨i - a - 1, by omega⟩
        rw [List.getElem?_set_ne (by omega), List.getElem?_append_right (by simp; omega)]
        unfold splice
        rw [List.getElem?_append_right (by simp; omega), List.getElem?_append_left (by simp; omega)]
        have e1 : a + 1 + j - (L.take (a + 1)).length = j := by simp; omega
        have e2 : a + 1 + j - (K.take a).length = j + 1 := by simp; omega
        rw [e1, e2, List.getElem?_map, List.getElem?_cons_succ]
  · rw [List.getElem?_eq_none (by simp; omega), List.getElem?_eq_none (by rw [List.length_map, ins_len]; omega)]
theorem splice_nil {α : Type} (L : List α) (n : Nat) : splice L n ([] : List α) = L := by
  unfold splice
  simp
end Go.Proofs.Ytnblilonjpfdnaa.Ch
end
section
namespace Go.Proofs.Ytnblilonjpfdnaa.Ch
open Go Go.RowKit Ck Go.Maps
section
variable {w : World} {c bm n : Nat} {tv : Value} {M : Int → Option Acc} {K : List Int}
theorem own_form {base : Nat} {u : World} {v : Value} {N : Nat} {xs : List Value} (h : u.ownsRow base TInt 1 v N xs) : ∃ a cap, v = .slice a N cap := by
  rcases h.2 with ⟨rfl, rfl⟩ | ⟨g, cap, cur, rfl, _⟩
  · exact ⟨none, 0, rfl⟩
  · exact ⟨_, cap, rfl⟩
theorem own_at {base : Nat} {u : World} {v : Value} {L : List Int} (h : u.ownsRow base TInt 1 v L.length (L.map iv)) {i : Nat} (hi : i < L.length) : ∃ g cap, v = .slice (some ⟨g, 0, none⟩) L.length cap ∧ u.cell? ⟨g, i, none⟩ = some (iv L[i]) := by
  rcases h.2 with ⟨_, h0⟩ | ⟨g, cap, cur, rfl, _, hg, _, _, _, ht⟩
  · omega
  · refine ⟨g, cap, rfl, ?_⟩
    have e : cur.toList[i]? = some (iv L[i]) := by
      have := congrArg (fun l => l[i]?) ht
      simp only [Nat.mul_one] at this
      rw [List.getElem?_take_of_lt hi] at this
      rw [this]; simp [hi]
    simp only [World.cell?, hg]
    simpa using e
set_option maxRecDepth 100000 in
set_option maxHeartbeats 3200000 in
theorem set_new (h : At w c bm tv n M K) (k : Int) (x : Acc) (hk : I64 k) (hn : n < 1000000) (hK9 : K.length ≤ 1000000) (hM : (M k).isSome = false) : Calls Try.prog 40 #[.pointer (some ⟨c, 0, none⟩), .int .i64 k, x.val] w (SetRes c bm n tv M K k x w) := by
  have H := Lib.hid h
  have hkey := key_of hk
  obtain ⟨i0, hi0, hz0, hz1, hz2⟩ := info_parts infoInt
  have HNK : Hid (∀ j (hj : j < K.length), K[j] ≠ k) := fun j hj e => by
    have := (h.ks.mem k).1 (e ▸ List.getElem_mem hj)
    rw [hM] at this
    cases this
  have HUP := Lib.hid h.ks.up
  obtain ⟨D, h1, h2⟩ := h.mp
  have hown := Lib.hid h1
  have HA := Lib.hid h2
  obtain ⟨y, hy⟩ : ∃ y, y = (M k).getD Acc.zero := ⟨_, rfl⟩
  have HX : Hid (∀ v ps, accR v = some (D.atKey (.int .i64 k) Acc.zero.dat, ps) → v = y.val) := fun v ps hv => by
    rw [h2.at', ← hy] at hv
    exact accR_inv hv
  have HQ : Hid (Maps.has D (.int .i64 k) = false) := by show _ = _; rw [h2.has, hM]
  have c0 : w.cell? ⟨c, 0, none⟩ = some (.map (some bm)) := h.blk.cell 0
  have hlt := h.blk.lt
  have HK := Lib.hid hk
  clear h h1 h2 hy hM hk
  obtain ⟨ya, yb, yc, ys, yd, ye, yf⟩ := y
  obtain ⟨xa, xb, xc, xs, xd, xe, xf⟩ := x
  unfold Acc.val at HX ⊢
  simp only at HX ⊢
  go_enter Try.func40, Try.ntmps40
  go_upto_region 3 with (at_lookup; refine wpList_lookup_own_ok _ rfl _ _ TMap rfl TInt TAcc law Try.underlying84 accR (zeroA _) Acc.zero.dat [] (accR_val Acc.zero) bm n D rfl (hown.out.alloc _) _ _ rfl hkey ?_; intro v ps hv; obtain rfl := HX.out v ps hv; rw [HQ.out])
  have HB2 : Hid (Below w.heap.size w ((w.alloc (.cells #[.int .i64 xa, .int .i64 xb, .int .u8 xc, .string xs, .bool xd, .int .i64 xe, .int .i64 xf] TAcc)).alloc (.cells #[.int .i64 ya, .int .i64 yb, .int .u8 yc, .string ys, .bool yd, .int .i64 ye, .int .i64 yf] TAcc))) := ((Below.refl _ w).alloc (Nat.le_refl _) _).alloc (by simp) _
  have RX : Hid (Rw ((w.alloc (.cells #[.int .i64 xa, .int .i64 xb, .int .u8 xc, .string xs, .bool xd, .int .i64 xe, .int .i64 xf] TAcc)).alloc (.cells #[.int .i64 ya, .int .i64 yb, .int .u8 yc, .string ys, .bool yd, .int .i64 ye, .int .i64 yf] TAcc)) w.heap.size TAcc [.int .i64 xa, .int .i64 xb, .int .u8 xc, .string xs, .bool xd, .int .i64 xe, .int .i64 xf]) := (Rw.new w [.int .i64 xa, .int .i64 xb, .int .u8 xc, .string xs, .bool xd, .int .i64 xe, .int .i64 xf] TAcc).later ((Below.refl _ _).alloc (Nat.le_refl _) _)
  have H2 := Lib.hid (H.out.later HB2.out)
  have hown2 : Hid (((w.alloc (.cells #[.int .i64 xa, .int .i64 xb, .int .u8 xc, .string xs, .bool xd, .int .i64 xe, .int .i64 xf] TAcc)).alloc (.cells #[.int .i64 ya, .int .i64 yb, .int .u8 yc, .string ys, .bool yd, .int .i64 ye, .int .i64 yf] TAcc)).ownsMap Try.prog TInt accR bm n D) := (hown.out.alloc _).alloc _
  clear c0 hlt
  generalize ((w.alloc (.cells #[.int .i64 xa, .int .i64 xb, .int .u8 xc, .string xs, .bool xd, .int .i64 xe, .int .i64 xf] TAcc)).alloc (.cells #[.int .i64 ya, .int .i64 yb, .int .u8 yc, .string ys, .bool yd, .int .i64 ye, .int .i64 yf] TAcc)) = W2 at HB2 RX H2 hown2 ⊢
  have e1 : W2.cell? ⟨c, 1, none⟩ = some tv := H2.out.blk.cell 1
  obtain ⟨ta, tc, rfl⟩ := own_form H2.out.own
  go_cut [8] (fun s8 wx => s8 = .int .i64 (K.length : Int) ∧ W2 = wx)
  case first =>
    go_wp2_with fail
    go_meet
    exact ⟨rfl, rfl⟩
  obtain ⟨rfl, rfl⟩ := hcut
  rename_i hKK
  apply hKK
  refine wp_seq_k (fun K2 hK2 => ?_)
  go_cut [8] (fun s8 wx => ∃ a : Nat, s8 = .int .i64 (a : Int) ∧ a ≤ K.length ∧ Hid ((∀ j (h : j < K.length), j < a → K[j] < k) ∧ ∀ j (h : j < K.length), a ≤ j → k < K[j]) ∧ W2 = wx)
  case rest =>
    obtain ⟨a, rfl, ha, HAA, rfl⟩ := hcut
    apply hK2
    have f1 : W2.frozen? ⟨c, 1, none⟩ = false := H2.out.blk.frozen 1
    obtain ⟨n1, n2, n3⟩ := H2.out.ne
    have N1 := Lib.hid n1
    have N2 := Lib.hid n2
    have N3 := Lib.hid n3
    clear n1 n2 n3
    go_wp2_with (at_builtin; refine wpList_append_own_at _ rfl _ _ TInts rfl 0 TInt i0 (.int .i64 0) 1 8 Try.underlying82 hi0 hz0 hz1 hz2 rfl (by decide) _ _ _ rfl (own_later H2.out.own ((Below.refl _ W2).alloc (Nat.le_refl _) _)) ⟨W2.heap.size, 0, none⟩ 1 1 [iv k] rfl rfl (cell_one_new _ _ _) (by simp [Value.oneCell']) (by unfold maxLen; omega) (by omega) (Nat.zero_le _) ?_)
    intro v' w3 hown3 hgrow hnil hat
    have KG3 : Keeps (fun j => (Value.slice ta K.length tc).ownBlock = some j) W2 w3 := ((Keeps.refl (fun j => (Value.slice ta K.length tc).ownBlock = some j) W2).alloc _).grown hgrow fun j hj => .inl hj
    have RC3 := Lib.hid (H2.out.blk.keeps KG3 N2.out)
    have RX3 := Lib.hid (RX.out.keeps KG3 (own_type H2.out.own RX.out (by decide)))
    have OM3 := Lib.hid (map_keeps hown2.out KG3 N3.out)
    have HLT : Hid (c < w.heap.size) := H.out.blk.lt
    obtain ⟨g, cap, cur, hv', hg0, hN, hcap, hsz, htk⟩ : ∃ g cap cur, v' = (.slice (some ⟨g, 0, none⟩) (K.length + 1) cap) ∧ w3.heap[g]? = some (.cells cur TInt (0, 0)) ∧ K.length + 1 ≤ cap ∧ cap ≤ maxLen ∧ cur.size = cap ∧ cur.toList.take (K.length + 1) = (K ++ [k]).map iv := by
      rcases hown3.2 with ⟨_, h0⟩ | ⟨g, cap, cur, h1, _, h2, h3, h4, h5, h6⟩
      · omega
      · exact ⟨g, cap, cur, h1, h2, h3, h4, by omega, by rw [List.map_append]; simpa using h6⟩
    subst hv'
    have RG3 : Hid (Rw w3 g TInt cur.toList) := by show w3.heap[g]? = _; rw [hg0]
    have NGC : Hid (g ≠ c) := fun e => by
      have h1 : w3.heap[c]? = some (.cells [Value.map (some bm), Value.slice ta K.length tc].toArray TCh (0, 0)) := RC3.out
      rw [e] at hg0
      have := h1.symm.trans hg0
      injection this with this
      injection this with _ h2
      exact absurd h2 (by decide)
    have NGX : Hid (g ≠ w.heap.size) := fun e => by
      have h1 : w3.heap[w.heap.size]? = _ := RX3.out
      rw [e] at hg0
      have := h1.symm.trans hg0
      injection this with this
      injection this with _ h2
      exact absurd h2 (by decide)
    have NGM : Hid (g ≠ bm) := fun e => by
      obtain ⟨es, clock, hb, _⟩ := OM3.out
      rw [e] at hg0
      have := hb.symm.trans hg0
      injection this with this
      cases this
    have HAT : Hid (Bs c bm (Value.slice ta K.length tc) g ∨ w.heap.size ≤ g) := by
      rcases hat with ha | ha
      · exact .inl (.inr (.inr (by rw [← ha]; rfl)))
      · have e2 : g = (W2.alloc (.cells #[iv k] TInt)).heap.size := by simpa [Value.ownBlock] using ha
        have := HB2.out.size
        exact .inr (by rw [e2]; simp; omega)
    have e3 : w3.cell? ⟨c, 1, none⟩ = some (.slice ta K.length tc) := RC3.out.cell 1
    have f3 : w3.frozen? ⟨c, 1, none⟩ = false := RC3.out.frozen 1
    have RC4 : Hid (Rw (w3.setCell ⟨c, 1, none⟩ (.slice (some ⟨g, 0, none⟩) (K.length + 1) cap)) c TCh [.map (some bm), (.slice (some ⟨g, 0, none⟩) (K.length + 1) cap)]) := RC3.out.setCell 1 _
    have RX4 : Hid (Rw (w3.setCell ⟨c, 1, none⟩ (.slice (some ⟨g, 0, none⟩) (K.length + 1) cap)) w.heap.size TAcc [.int .i64 xa, .int .i64 xb, .int .u8 xc, .string xs, .bool xd, .int .i64 xe, .int .i64 xf]) := RX3.out.otherCell c 1 _ (by have := HLT.out; omega)
    have RG4 : Hid (Rw (w3.setCell ⟨c, 1, none⟩ (.slice (some ⟨g, 0, none⟩) (K.length + 1) cap)) g TInt cur.toList) := RG3.out.otherCell c 1 _ NGC.out
    have OM4 : Hid ((w3.setCell ⟨c, 1, none⟩ (.slice (some ⟨g, 0, none⟩) (K.length + 1) cap)).ownsMap Try.prog TInt accR bm n D) := OM3.out.setCell (fun e => N1.out e.symm) _
    have KB4 : Hid (Keeps (Bs c bm (Value.slice ta K.length tc)) W2 (w3.setCell ⟨c, 1, none⟩ (.slice (some ⟨g, 0, none⟩) (K.length + 1) cap))) := (KG3.mono fun j hj => .inl (.inr (.inr hj))).setCell c 1 _ (.inl (.inl rfl))
    have HTK := Lib.hid htk
    have HSZ := Lib.hid hsz
    clear KG3 hown3 hgrow hnil hat hg0 hsz htk e1 f1
    go_upto_region 7 with (fail)
    clear e3 f3 RC3 RX3 OM3 RG3
    generalize w3.setCell ⟨c, 1, none⟩ (.slice (some ⟨g, 0, none⟩) (K.length + 1) cap) = W4 at RC4 RX4 RG4 OM4 KB4 ⊢
    go_cut [8] (fun s8 wx => s8 = .int .i64 (a : Int) ∧ ∃ L5 : List Value, L5.length = cap ∧ Hid (Rw wx g TInt L5) ∧ Hid ((L5.set a (iv k)).take (K.length + 1) = (ins K a k).map iv) ∧ Hid (Keeps (fun j => j = g) W4 wx))
    case first =>
      have q1 : W4.cell? ⟨c, 1, none⟩ = some (.slice (some ⟨g, 0, none⟩) (K.length + 1) cap) := RC4.out.cell 1
      have hs1 := fun u => slice_ints g (K.length + 1) cap (a + 1) (by omega) hN u
      have hs2 := fun u => slice_ints g (K.length + 1) cap a (by omega) hN u
      rw [show ((a + 1 : Nat) : Int) = (a : Int) + 1 by omega] at hs1
      have hw : IntKind.i64.wrap ((a : Int) + 1) = (a : Int) + 1 := IntWalk.i64_in _ ⟨by omega, by omega⟩
      by_cases hlt : a < K.length
      · rw [if_neg (by omega)] at hs1 hs2
        have HGG : Hid (W4.drew.heap[g]? = some (.cells cur TInt (0, 0))) := by
          have : W4.heap[g]? = some (.cells cur.toList.toArray TInt (0, 0)) := RG4.out
          show W4.heap[g]? = _
          rw [this]
        have HLEN : Hid (((K.drop a).map iv).length = Nat.min (K.length + 1 - a) (K.length - a)) := by
          show _ = _
          rw [List.length_map, List.length_drop]
          show _ = min _ _
          omega
        have HLEN2 : Hid (((K.drop a).map iv).length = Nat.min (K.length + 1 - a) (K.length + 1 - (a + 1))) := by
          show _ = _
          rw [List.length_map, List.length_drop]
          show _ = min _ _
          omega
        have HSRC : Hid (∀ (j : Nat) (v : Value), ((K.drop a).map iv)[j]? = some v → W4.drew.cell? ((⟨g, a, none⟩ : Addr).add j) = some v) := fun j v hv => by
          have hj : j < K.length - a := by
            have := (List.getElem?_eq_some_iff.1 hv).1
            simpa using this
          rw [Go.WideShapes.add_plain]
          show W4.cell? ⟨g, a + j, none⟩ = some v
          rw [RG4.out.cell, ← hv]
          have e : cur.toList[a + j]? = ((K ++ [k]).map iv)[a + j]? := by rw [← HTK.out, List.getElem?_take_of_lt (by omega)]
          rw [e, List.getElem?_map, List.getElem?_map, List.getElem?_drop, List.getElem?_append_left (by omega)]
        have HFIT : Hid (a + 1 + ((K.drop a).map iv).length ≤ cur.size) := by
          show _ ≤ _
          rw [List.length_map, List.length_drop, HSZ.out]
          omega
        have HONE : Hid (∀ v ∈ (K.drop a).map iv, v.oneCell' = true) := fun v hv => by
          obtain ⟨q, _, rfl⟩ := List.mem_map.1 hv
          rfl
        have HFIN : Hid (∃ L5 : List Value, L5.length = cap ∧ Hid (Rw (W4.drew.setRow g (cur.toList.take (a + 1) ++ ((K.drop a).map iv ++ cur.toList.drop (a + 1 + ((K.drop a).map iv).length))).toArray) g TInt L5) ∧ Hid ((L5.set a (iv k)).take (K.length + 1) = (ins K a k).map iv) ∧ Hid (Keeps (fun j => j = g) W4 (W4.drew.setRow g (cur.toList.take (a + 1) ++ ((K.drop a).map iv ++ cur.toList.drop (a + 1 + ((K.drop a).map iv).length))).toArray))) := by
          refine ⟨splice cur.toList (a + 1) ((K.drop a).map iv), ?_, setRow_heap W4.drew g cur _ TInt (0, 0) HGG.out, ins_take ha (by simp [HSZ.out]; omega) HTK.out, ?_⟩
          · rw [length_splice _ _ _ (by have := HFIT.out; simpa using this)]
            simp [HSZ.out]
          · exact (Keeps.refl (fun j => j = g) W4).drew.then (S := fun j => j = g) ⟨rfl, rfl, rfl, by simp [World.setRow], fun q hq hne => setRow_other _ _ _ _ hne⟩ fun j hj => .inl hj
        clear hlt
        go_still_tail 13, (by kernel_rfl)
        change wpList _ _ _ _ _ W4.drew
        refine wpList_copy_own rfl _ _ TInts TInts rfl TInt Try.underlying82 (by kernel_rfl) g (a + 1) _ _ ⟨g, a, none⟩ _ _ rfl rfl cur TInt HGG.out ((K.drop a).map iv) (by first | exact HLEN.out | exact HLEN2.out) HSRC.out HFIT.out HONE.out ?_
        go_wp2_with fail
        go_meet
        exact ⟨rfl, HFIN.out⟩
      · obtain rfl : a = K.length := by omega
        rw [if_neg (by omega)] at hs2
        obtain ⟨dp, hdp⟩ : ∃ dp, dp = (if cap = K.length + 1 then some (⟨g, 0, none⟩ : Addr) else some ⟨g, K.length + 1, none⟩) := ⟨_, rfl⟩
        rw [← hdp] at hs1
        have HFIN : Hid (∃ L5 : List Value, L5.length = cap ∧ Hid (Rw W4.drew g TInt L5) ∧ Hid ((L5.set K.length (iv k)).take (K.length + 1) = (ins K K.length k).map iv) ∧ Hid (Keeps (fun j => j = g) W4 W4.drew)) := by
          refine ⟨cur.toList, by simp [HSZ.out], RG4.out, ?_, (Keeps.refl (fun j => j = g) W4).drew⟩
          have := ins_take (a := K.length) (Nat.le_refl _) (by simp [HSZ.out]; omega) HTK.out
          rw [List.drop_length, List.map_nil, splice_nil] at this
          exact this
        clear hdp hlt
        go_still_tail 13, (by kernel_rfl)
        change wpList _ _ _ _ _ W4.drew
        refine wpList_copy_nothing rfl _ _ TInts TInts rfl TInt Try.underlying82 (by kernel_rfl) _ _ _ _ _ _ rfl rfl (by first | rfl | simp | omega) ?_
        go_wp2_with fail
        go_meet
        exact ⟨rfl, HFIN.out⟩
    obtain ⟨rfl, L5, hL5, RG5, HT5, KG5⟩ := hcut
    rename_i hK7
    apply hK7
    have RC5 := Lib.hid (RC4.out.keeps KG5.out NGC.out.symm)
    have RX5 := Lib.hid (RX4.out.keeps KG5.out NGX.out.symm)
    have OM5 := Lib.hid (map_keeps OM4.out KG5.out NGM.out.symm)
    have q1 : wc.cell? ⟨c, 1, none⟩ = some (.slice (some ⟨g, 0, none⟩) (K.length + 1) cap) := RC5.out.cell 1
    have q2 : wc.cell? ⟨g, a, none⟩ = some (L5[a]'(by omega)) := by rw [RG5.out.cell]; simp
    have q3 := RG5.out.frozen a
    have a1 : (0 : Int) ≤ (a : Int) := by omega
    have a2 : (a : Int) < (K.length : Int) + 1 := by omega
    have RG6 : Hid (Rw (wc.setCell ⟨g, a, none⟩ (iv k)) g TInt (L5.set a (iv k))) := RG5.out.setCell a _
    have RC6 : Hid (Rw (wc.setCell ⟨g, a, none⟩ (iv k)) c TCh [.map (some bm), (.slice (some ⟨g, 0, none⟩) (K.length + 1) cap)]) := RC5.out.otherCell g a _ NGC.out.symm
    have RX6 : Hid (Rw (wc.setCell ⟨g, a, none⟩ (iv k)) w.heap.size TAcc [.int .i64 xa, .int .i64 xb, .int .u8 xc, .string xs, .bool xd, .int .i64 xe, .int .i64 xf]) := RX5.out.otherCell g a _ NGX.out.symm
    have OM6 : Hid ((wc.setCell ⟨g, a, none⟩ (iv k)).ownsMap Try.prog TInt accR bm n D) := OM5.out.setCell NGM.out.symm _
    have KG6 : Hid (Keeps (fun j => j = g) W4 (wc.setCell ⟨g, a, none⟩ (iv k))) := KG5.out.setCell g a _ (.inl rfl)
    go_upto_region 9 with (fail)
    clear q1 q2 q3 RC5 RX5 OM5 RG5
    generalize wc.setCell ⟨g, a, none⟩ (iv k) = W6 at RG6 RC6 RX6 OM6 KG6 ⊢
    have d0 : W6.cell? ⟨w.heap.size, 0, none⟩ = some (.int .i64 xa) := RX6.out.cell 0
    have d1 : W6.cell? ⟨w.heap.size, 1, none⟩ = some (.int .i64 xb) := RX6.out.cell 1
    have d2 : W6.cell? ⟨w.heap.size, 2, none⟩ = some (.int .u8 xc) := RX6.out.cell 2
    have d3 : W6.cell? ⟨w.heap.size, 3, none⟩ = some (.string xs) := RX6.out.cell 3
    have d4 : W6.cell? ⟨w.heap.size, 4, none⟩ = some (.bool xd) := RX6.out.cell 4
    have d5 : W6.cell? ⟨w.heap.size, 5, none⟩ = some (.int .i64 xe) := RX6.out.cell 5
    have d6 : W6.cell? ⟨w.heap.size, 6, none⟩ = some (.int .i64 xf) := RX6.out.cell 6
    have e0 : W6.cell? ⟨c, 0, none⟩ = some (.map (some bm)) := RC6.out.cell 0
    go_still_tail 6, (by kernel_rfl)
    change wpList _ _ _ _ _ W6.drew
    clear d0 d1 d2 d3 d4 d5 d6 e0
    go_wp2_with (at_mapUpdate; refine wpList_mapUpdate_in _ rfl _ _ _ TMap rfl TInt TAcc law Try.underlying84 accR bm n D rfl (OM6.out.drew) (by unfold maxLen; omega) _ _ _ rfl rfl hkey (Acc.dat ⟨xa, xb, xc, xs, xd, xe, xf⟩) [] rfl ?_; intro w1 hown1 hturn1)
    refine bodyPost_ret (results_none rfl _ _ _) rfl ?_
    have hg := hturn1.grown
    have KB : Keeps (fun j => j = bm) W6 w1 := ((Keeps.refl (fun j => j = bm) W6).drew).grown hg fun j hj => by cases hj; exact .inl rfl
    have HOWN : w1.ownsRow 0 TInt 1 (.slice (some ⟨g, 0, none⟩) (K.length + 1) cap) (K.length + 1) ((ins K a k).map iv) := by
      refine ⟨by rw [List.length_map, ins_len, Nat.mul_one], .inr ⟨g, cap, (L5.set a (iv k)).toArray, rfl, Nat.zero_le _, RG6.out.keeps KB NGM.out, hN, hcap, by simp [hL5], ?_⟩⟩
      rw [Nat.mul_one]
      simpa using HT5.out
    have HKS : Ks (upd M k ⟨xa, xb, xc, xs, xd, xe, xf⟩) (ins K a k) := by
      refine H.out.ks.new _ (fun q hq => ?_) (fun q hq => ?_)
      · obtain ⟨j, hj, rfl⟩ := List.getElem_of_mem hq
        rw [List.length_take] at hj
        rw [List.getElem_take]
        exact HAA.out.1 j (by omega) (by omega)
      · obtain ⟨j, hj, rfl⟩ := List.getElem_of_mem hq
        rw [List.length_drop] at hj
        rw [List.getElem_drop]
        exact HAA.out.2 (a + j) (by omega) (by omega)
    have KALL : Keeps (Bs c bm (Value.slice ta K.length tc)) w w1 := by
      have e1 := (Keeps.of (Bs c bm (Value.slice ta K.length tc)) HB2.out).then KB4.out fun j hj => .inl hj
      have e2 := e1.then KG6.out fun j hj => by rw [hj]; exact HAT.out
      exact e2.then KB fun j hj => by rw [hj]; exact .inl (.inr (.inl rfl))
    refine ⟨rfl, .slice (some ⟨g, 0, none⟩) (K.length + 1) cap, ins K a k, ⟨RC6.out.keeps KB N1.out, ⟨_, hown1, HA.out.put k ⟨xa, xb, xc, xs, xd, xe, xf⟩⟩, ?_, HKS⟩, Nat.le_of_eq (ins_len K a k), KALL, fun j hj => ?_⟩
    · rw [ins_len]; exact HOWN
    · rcases hj with hj | hj | hj
      · exact .inl (.inl hj)
      · exact .inl (.inr (.inl hj))
      · obtain rfl : g = j := by simpa [Value.ownBlock] using hj
        exact HAT.out
  go_wp2_with fail
  go_loopg [8] K.length (fun kx s8 wr => ∃ i : Nat, s8 = .int .i64 (i : Int) ∧ i ≤ K.length ∧ Hid (∀ j (h : j < K.length), i ≤ j → k < K[j]) ∧ Hid (W2 = wr) ∧ i ≤ kx)
  case atStart => exact ⟨K.length, rfl, Nat.le_refl _, fun j h hj => absurd hj (by omega), rfl, Nat.le_refl _⟩
  case round =>
    obtain ⟨i, rfl, hi, HJ, HW, hkx⟩ := hrel
    obtain rfl := HW.out
    by_cases hp : 0 < i
    · obtain ⟨m, rfl⟩ : ∃ m, i = m + 1 := ⟨i - 1, by omega⟩
      have hm : m < K.length := by omega
      obtain ⟨g, cap, ev, hc⟩ := own_at H2.out.own hm
      obtain ⟨rfl, rfl⟩ : ta = some ⟨g, 0, none⟩ ∧ tc = cap := by simpa using ev
      have hw1 : IntKind.i64.wrap (((m + 1 : Nat) : Int) - 1) = (m : Int) := by rw [show ((m + 1 : Nat) : Int) - 1 = (m : Int) by omega]; exact IntWalk.i64_in _ ⟨by omega, by omega⟩
      obtain ⟨z, hz⟩ : ∃ z, z = K[m] := ⟨_, rfl⟩
      rw [← hz] at hc
      have HZ := Lib.hid hz
      have i0' : (0 : Int) < ((m + 1 : Nat) : Int) := by omega
      have m0 : (0 : Int) ≤ (m : Int) := by omega
      have m1 : (m : Int) < (K.length : Int) := by omega
      clear hz ev hp
      by_cases hgt : k < z
      · have HJ2 : Hid (∀ j (h : j < K.length), m ≤ j → k < K[j]) := fun j h hj => by
          by_cases e : m + 1 ≤ j
          · exact HJ.out j h e
          · obtain rfl : j = m := by omega
            rw [← HZ.out]; exact hgt
        go_wp2_with fail
        go_roundg m
        case measure => omega
        case rel => exact ⟨m, rfl, by omega, HJ2, rfl, Nat.le_refl _⟩
      · have HF : Hid ((∀ j (h : j < K.length), j < m + 1 → K[j] < k) ∧ ∀ j (h : j < K.length), m + 1 ≤ j → k < K[j]) := by
          refine ⟨fun j h hj => ?_, HJ.out⟩
          have hzk : z < k := by
            have := HNK.out m hm
            rw [← HZ.out] at this
            omega
          by_cases e : j = m
          · subst e; rw [← HZ.out]; exact hzk
          · have := up_le HUP.out (show j < m by omega) hm
            rw [← HZ.out] at this
            omega
        go_wp2_with fail
        go_meet
        exact ⟨m + 1, rfl, hi, HF, rfl⟩
    · obtain rfl : i = 0 := by omega
      have HF : Hid ((∀ j (h : j < K.length), j < 0 → K[j] < k) ∧ ∀ j (h : j < K.length), 0 ≤ j → k < K[j]) := ⟨fun j _ hj => absurd hj (by omega), HJ.out⟩
      clear hp
      go_wp2_with fail
      go_meet
      exact ⟨0, rfl, Nat.zero_le _, HF, rfl⟩
end
end Go.Proofs.Ytnblilonjpfdnaa.Ch
end
section
namespace Go.Proofs.Ytnblilonjpfdnaa.Ch
open Go Go.RowKit Ck Go.Maps
section
variable {w : World} {c bm n : Nat} {tv : Value} {M : Int → Option Acc} {K : List Int}
theorem set_c (h : At w c bm tv n M K) (k : Int) (x : Acc) (hk : I64 k) (hn : n < 1000000) (hK : K.length ≤ 1000000) : Calls Try.prog 40 #[.pointer (some ⟨c, 0, none⟩), .int .i64 k, x.val] w (SetRes c bm n tv M K k x w) := by
  cases hM : (M k).isSome with
  | true => exact set_old h k x hk hn hM
  | false => exact set_new h k x hk hn hK hM
set_option maxRecDepth 100000 in
theorem keys_c (h : At w c bm tv n M K) : Calls Try.prog 53 #[.pointer (some ⟨c, 0, none⟩)] w fun e w' => e = .returned tv ∧ w = w' := by
  have c1 : w.cell? ⟨c, 1, none⟩ = some tv := h.blk.cell 1
  clear h
  go_enter Try.func53, Try.ntmps53
  go_wp2_with fail
  go_ret
  exact ⟨rfl, rfl⟩
end
set_option maxRecDepth 100000 in
theorem new_c (w : World) : Calls Try.prog 34 #[] w fun e w' => ∃ c bm, e = .returned (.pointer (some ⟨c, 0, none⟩)) ∧ At w' c bm (.slice none 0 0) 0 (fun _ => none) [] ∧ Below w.heap.size w w' ∧ ∀ j, Bs c bm (.slice none 0 0) j → w.heap.size ≤ j := by
  have hmm := @run_makeMap Try.prog
  go_enter Try.func34, Try.ntmps34
  go_wp2_with fail
  go_ret
  have hb : Below w.heap.size w ((w.alloc (.map #[] 0)).alloc (.cells #[.map (some w.heap.size), .slice none 0 0] TCh)) := ((Below.refl _ w).alloc (Nat.le_refl _) _).alloc (by simp) _
  have R : Rw ((w.alloc (.map #[] 0)).alloc (.cells #[.map (some w.heap.size), .slice none 0 0] TCh)) (w.heap.size + 1) TCh [.map (some w.heap.size), .slice none 0 0] := by
    have := Rw.new (w.alloc (.map #[] 0)) [.map (some w.heap.size), .slice none 0 0] TCh
    have hs : (w.alloc (.map #[] 0)).heap.size = w.heap.size + 1 := by simp
    rwa [hs] at this
  refine ⟨w.heap.size + 1, w.heap.size, rfl, ⟨R, ⟨_, (World.ownsMap_made w Try.prog TInt accR).alloc _, Ag.empty⟩, World.ownsRow_nil _ _ _ _, Ks.empty⟩, hb, fun j hj => ?_⟩
  rcases hj with rfl | rfl | hj
  · omega
  · exact Nat.le_refl _
  · simp [Value.ownBlock] at hj
def sideM (c : Int) : Int := if c = 1 ∨ c = 4 then 1 else if c = 2 ∨ c = 3 ∨ c = 5 then -1 else 0
set_option maxRecDepth 100000 in
theorem side_c (w : World) (c : Int) : Calls Try.prog 88 #[.int .u8 c] w fun e w' => e = .returned (.int .i64 (sideM c)) ∧ w = w' := by
  unfold sideM
  by_cases h1 : c = 1
  · subst h1
    go_enter Try.func88, Try.ntmps88
    go_wp2_with fail
    go_ret
    exact ⟨rfl, rfl⟩
  by_cases h4 : c = 4
  · subst h4
    go_enter Try.func88, Try.ntmps88
    go_wp2_with fail
    go_ret
    exact ⟨rfl, rfl⟩
  by_cases h2 : c = 2
  · subst h2
    go_enter Try.func88, Try.ntmps88
    go_wp2_with fail
    go_ret
    exact ⟨rfl, rfl⟩
  by_cases h3 : c = 3
  · subst h3
    go_enter Try.func88, Try.ntmps88
    go_wp2_with fail
    go_ret
    exact ⟨rfl, rfl⟩
  by_cases h5 : c = 5
  · subst h5
    go_enter Try.func88, Try.ntmps88
    go_wp2_with fail
    go_ret
    exact ⟨rfl, rfl⟩
  rw [if_neg (by omega), if_neg (by omega)]
  have b1 : (c == 1) = false := beq_eq_false_iff_ne.2 h1
  have b2 : (c == 2) = false := beq_eq_false_iff_ne.2 h2
  have b3 : (c == 3) = false := beq_eq_false_iff_ne.2 h3
  have b4 : (c == 4) = false := beq_eq_false_iff_ne.2 h4
  have b5 : (c == 5) = false := beq_eq_false_iff_ne.2 h5
  clear h1 h2 h3 h4 h5
  go_enter Try.func88, Try.ntmps88
  go_wp2_with fail
  go_ret
  exact ⟨rfl, rfl⟩
end Go.Proofs.Ytnblilonjpfdnaa.Ch
end
section
namespace Go.Proofs.Ytnblilonjpfdnaa.Ch
open Go Go.RowKit Ck Go.Maps
/-- An account as it is told. -/
structure A5 where
  code : Int
  up : Int
  cls : Int
  name : ByteArray
  shut : Bool
def A5.cells (a : A5) : List Value := [.int .i64 a.code, .int .i64 a.up, .int .u8 a.cls, .string a.name, .bool a.shut]
def A5.val (a : A5) : Value := .agg #[.int .i64 a.code, .int .i64 a.up, .int .u8 a.cls, .string a.name, .bool a.shut]
def A5.validB (a : A5) : Bool := decide (1 ≤ a.code) && decide (a.code ≤ 9999) && decide (sideM a.cls ≠ 0) && (!a.name.toList.isEmpty) && decide (a.name.size ≤ 60) && !a.shut
structure A5.Fits (a : A5) : Prop where
  code : I64 a.code
  up : I64 a.up
  name : a.name.size ≤ 9223372036854775807
set_option maxRecDepth 100000 in
theorem valid_c (a : A5) (w : World) (hf : a.Fits) : Calls Try.prog 72 #[a.val] w fun e w' => e = .returned (.bool a.validB) ∧ Below w.heap.size w w' := by
  obtain ⟨code, up, cls, name, shut⟩ := a
  have hn := hf.name
  simp only at hn
  clear hf
  have HB : Hid (Below w.heap.size w (w.alloc (.cells #[.int .i64 code, .int .i64 up, .int .u8 cls, .string name, .bool shut] 35))) := (Below.refl _ w).alloc (Nat.le_refl _) _
  have KS : Hid (∀ u, Calls Try.prog 88 #[.int .u8 cls] u fun e w' => e = .returned (.int .i64 (sideM cls)) ∧ u = w') := fun u => side_c u cls
  obtain ⟨sd, hsd⟩ : ∃ sd, sd = sideM cls := ⟨_, rfl⟩
  have HV : Hid (A5.validB ⟨code, up, cls, name, shut⟩ = (decide (1 ≤ code) && decide (code ≤ 9999) && decide (sd ≠ 0) && (!name.toList.isEmpty) && decide (name.size ≤ 60) && !shut)) := by rw [hsd]; rfl
  rw [← hsd] at KS
  rw [HV.out]
  clear hsd HV
  unfold A5.val
  simp only
  obtain ⟨r, hr⟩ : ∃ r, r = (decide (1 ≤ code) && decide (code ≤ 9999) && decide (sd ≠ 0) && (!name.toList.isEmpty) && decide (name.size ≤ 60) && !shut) := ⟨_, rfl⟩
  rw [← hr]
  by_cases h1 : 1 ≤ code
  case neg =>
    have hv : r = false := by rw [hr]; simp [h1]
    rw [hv]
    clear hv hr
    go_enter Try.func72, Try.ntmps72
    go_wp2_with fail
    go_ret
    exact ⟨rfl, HB.out⟩
  by_cases h2 : code ≤ 9999
  case neg =>
    have hv : r = false := by rw [hr]; simp [h2]
    rw [hv]
    clear hv hr
    go_enter Try.func72, Try.ntmps72
    go_wp2_with fail
    go_ret
    exact ⟨rfl, HB.out⟩
  by_cases h3 : sd = 0
  case pos =>
    have hv : r = false := by rw [hr]; simp [h3]
    rw [hv]
    clear hv hr
    subst h3
    go_enter Try.func72, Try.ntmps72
    go_wp2_with fail
    refine (KS.out _).mono ?_
    rintro e w' ⟨rfl, rfl⟩
    go_wp2_with fail
    go_ret
    exact ⟨rfl, HB.out⟩
  cases h4 : name.toList.isEmpty with
  | true =>
    have b3 : (sd != 0) = true := by simpa using h3
    have hv : r = false := by rw [hr]; simp [h4]
    rw [hv]
    clear hv hr
    go_enter Try.func72, Try.ntmps72
    go_wp2_with fail
    refine (KS.out _).mono ?_
    rintro e w' ⟨rfl, rfl⟩
    go_wp2_with fail
    go_ret
    exact ⟨rfl, HB.out⟩
  | false =>
    have b3 : (sd != 0) = true := by simpa using h3
    by_cases h5 : name.size ≤ 60
    case neg =>
      have hv : r = false := by rw [hr]; simp [h5]
      rw [hv]
      clear hv hr
      have h5' : ¬ (name.size : Int) ≤ 60 := by omega
      clear h5
      go_enter Try.func72, Try.ntmps72
      go_wp2_with fail
      refine (KS.out _).mono ?_
      rintro e w' ⟨rfl, rfl⟩
      go_wp2_with fail
      go_ret
      exact ⟨rfl, HB.out⟩
    have hv : r = !shut := by rw [hr]; simp [h1, h2, h3, h4, h5]
    rw [hv]
    clear hv hr
    have h5' : (name.size : Int) ≤ 60 := by omega
    clear h5
    go_enter Try.func72, Try.ntmps72
    go_wp2_with fail
    refine (KS.out _).mono ?_
    rintro e w' ⟨rfl, rfl⟩
    go_wp2_with fail
    go_ret
    exact ⟨rfl, HB.out⟩
end Go.Proofs.Ytnblilonjpfdnaa.Ch
end
section
namespace Go.Proofs.Ytnblilonjpfdnaa.Ch
open Go Go.RowKit Ck Go.Maps
/-- What Add does. -/
def addM (M : Int → Option Acc) (a : A5) : (Int → Option Acc) × Int :=
  if a.validB = false then (M, 2) else if (M a.code).isSome = true then (M, 8) else
  if a.up = 0 then (upd M a.code ⟨a.code, a.up, a.cls, a.name, a.shut, ((M 0).getD Acc.zero).depth + 1, 0⟩, 0) else
  match M a.up with
  | none => (M, 7)
  | some p => if p.shut = true ∨ p.cls ≠ a.cls ∨ 8 ≤ p.depth then (M, 9) else
    (upd (upd M a.up ⟨p.code, p.up, p.cls, p.name, p.shut, p.depth, p.kids + 1⟩) a.code ⟨a.code, a.up, a.cls, a.name, a.shut, p.depth + 1, 0⟩, 0)
/-- What holds of all accounts. -/
def Bd (M : Int → Option Acc) : Prop := ∀ c p, M c = some p → 0 ≤ p.depth ∧ p.depth ≤ 1000 ∧ 0 ≤ p.kids ∧ p.kids ≤ 1000000
section
variable {w : World} {c bm n : Nat} {tv : Value} {M : Int → Option Acc} {K : List Int}
def AddRes (c bm n : Nat) (tv : Value) (M' : Int → Option Acc) (z : Int) (w : World) (e : Ending) (w' : World) : Prop :=
  e = .returned (.int .i64 z) ∧ ∃ (tv' : Value) (K' : List Int) (n' : Nat), n' ≤ n + 2 ∧ (z = 0 ∨ n' ≤ n) ∧ At w' c bm tv' n' M' K' ∧ Keeps (Bs c bm tv) w w' ∧ ∀ j, Bs c bm tv' j → Bs c bm tv j ∨ w.heap.size ≤ j
theorem add_same (h : At w c bm tv n M K) {z : Int} {w' : World} (k : Below w.heap.size w w') : AddRes c bm n tv M z w (.returned (.int .i64 z)) w' :=
  ⟨rfl, tv, K, n, by omega, .inr (Nat.le_refl _), h.later k, Keeps.of _ k, fun j hj => .inl hj⟩
set_option maxRecDepth 100000 in
theorem add_nil (a : A5) (w : World) : Calls Try.prog 36 #[.pointer none, a.val] w fun e w' => e = .returned (.int .i64 1) ∧ Below w.heap.size w w' := by
  obtain ⟨code, up, cls, name, shut⟩ := a
  have HB : Hid (Below w.heap.size w (w.alloc (.cells #[.int .i64 code, .int .i64 up, .int .u8 cls, .string name, .bool shut] 35))) := (Below.refl _ w).alloc (Nat.le_refl _) _
  have KI := Lib.hid is_nil
  unfold A5.val
  simp only
  go_enter Try.func36, Try.ntmps36
  go_wp2_with fail
  refine (KI.out _).mono ?_
  rintro e w' ⟨rfl, rfl⟩
  go_wp2_with fail
  go_ret
  exact ⟨rfl, HB.out⟩
set_option maxRecDepth 100000 in
theorem add_zero (h : Rw w c TCh [.map none, .slice none 0 0]) (a : A5) : Calls Try.prog 36 #[.pointer (some ⟨c, 0, none⟩), a.val] w fun e w' => e = .returned (.int .i64 1) ∧ Below w.heap.size w w' := by
  obtain ⟨code, up, cls, name, shut⟩ := a
  have HB : Hid (Below w.heap.size w (w.alloc (.cells #[.int .i64 code, .int .i64 up, .int .u8 cls, .string name, .bool shut] 35))) := (Below.refl _ w).alloc (Nat.le_refl _) _
  have KI := Lib.hid (is_zero (h.later HB.out))
  clear h
  unfold A5.val
  simp only
  go_enter Try.func36, Try.ntmps36
  go_wp2_with fail
  refine KI.out.mono ?_
  rintro e w' ⟨rfl, rfl⟩
  go_wp2_with fail
  go_ret
  exact ⟨rfl, HB.out⟩
set_option maxRecDepth 100000 in
set_option maxHeartbeats 3200000 in
theorem add_c (h : At w c bm tv n M K) (a : A5) (hf : a.Fits) (hn : n < 900000) (hK : K.length ≤ 900000) (hb : Bd M) : Calls Try.prog 36 #[.pointer (some ⟨c, 0, none⟩), a.val] w (AddRes c bm n tv (addM M a).1 (addM M a).2 w) := by
  have H := Lib.hid h
  have HBD := Lib.hid hb
  obtain ⟨code, up, cls, name, shut⟩ := a
  have hc1 := hf.code
  have hu1 := hf.up
  simp only at hc1 hu1
  have HB0 : Hid (Below w.heap.size w (w.alloc (.cells #[.int .i64 code, .int .i64 up, .int .u8 cls, .string name, .bool shut] 35))) := (Below.refl _ w).alloc (Nat.le_refl _) _
  have RB0 : Hid (Rw (w.alloc (.cells #[.int .i64 code, .int .i64 up, .int .u8 cls, .string name, .bool shut] 35)) w.heap.size 35 [.int .i64 code, .int .i64 up, .int .u8 cls, .string name, .bool shut]) := Rw.new w [.int .i64 code, .int .i64 up, .int .u8 cls, .string name, .bool shut] 35
  have KI := Lib.hid (is_c (h.later HB0.out))
  have KV : Hid (∀ u, Calls Try.prog 72 #[.agg #[.int .i64 code, .int .i64 up, .int .u8 cls, .string name, .bool shut]] u fun e w' => e = .returned (.bool (A5.validB ⟨code, up, cls, name, shut⟩)) ∧ Below u.heap.size u w') := fun u => valid_c ⟨code, up, cls, name, shut⟩ u hf
  have KG : Hid (∀ u k, Below w.heap.size w u → I64 k → Calls Try.prog 38 #[.pointer (some ⟨c, 0, none⟩), .int .i64 k] u (GetRes M k u)) := fun u k hu hk => get_c (H.out.later hu) k hk
  obtain ⟨R, hR⟩ : ∃ R, R = addM M ⟨code, up, cls, name, shut⟩ := ⟨_, rfl⟩
  rw [← hR]
  unfold addM at hR
  simp only at hR
  obtain ⟨vb, hvb⟩ : ∃ vb, vb = A5.validB ⟨code, up, cls, name, shut⟩ := ⟨_, rfl⟩
  rw [← hvb] at KV hR
  unfold A5.val
  simp only
  have HC1 := Lib.hid hc1
  have HU1 := Lib.hid hu1
  clear h hb hf hvb hc1 hu1
  cases vb with
  | false =>
    rw [if_pos rfl] at hR
    subst hR
    go_enter Try.func36, Try.ntmps36
    go_wp2_with fail
    refine KI.out.mono ?_
    rintro e w' ⟨rfl, rfl⟩
    go_wp2_with fail
    refine (KV.out _).mono ?_
    rintro e u1 ⟨rfl, hb⟩
    have HB1 : Hid (Below w.heap.size w u1) := HB0.out.trans (hb.mono HB0.out.size)
    clear hb
    go_wp2_with fail
    go_ret
    exact add_same H.out HB1.out
  | true =>
    rw [if_neg (by decide)] at hR
    obtain ⟨q, hq⟩ : ∃ q, q = (M code).getD Acc.zero := ⟨_, rfl⟩
    have HQ := Lib.hid hq
    clear hq
    go_enter Try.func36, Try.ntmps36
    go_wp2_with fail
    generalize w.alloc (.cells #[.int .i64 code, .int .i64 up, .int .u8 cls, .string name, .bool shut] 35) = W0 at HB0 RB0 KI ⊢
    refine KI.out.mono ?_
    rintro e w' ⟨rfl, rfl⟩
    have b0 : W0.cell? ⟨w.heap.size, 0, none⟩ = some (.int .i64 code) := (RB0.out).cell 0
    have b1 : W0.cell? ⟨w.heap.size, 1, none⟩ = some (.int .i64 up) := (RB0.out).cell 1
    have b2 : W0.cell? ⟨w.heap.size, 2, none⟩ = some (.int .u8 cls) := (RB0.out).cell 2
    have b3 : W0.cell? ⟨w.heap.size, 3, none⟩ = some (.string name) := (RB0.out).cell 3
    have b4 : W0.cell? ⟨w.heap.size, 4, none⟩ = some (.bool shut) := (RB0.out).cell 4
    go_wp2_with fail
    refine (KV.out _).mono ?_
    rintro e u1 ⟨rfl, hb⟩
    have HB1 : Hid (Below w.heap.size w u1) := HB0.out.trans (hb.mono HB0.out.size)
    have RB1 := Lib.hid (RB0.out.later hb)
    clear hb b0 b1 b2 b3 b4 KI KV HB0 RB0
    have b0 : u1.cell? ⟨w.heap.size, 0, none⟩ = some (.int .i64 code) := (RB1.out).cell 0
    have b1 : u1.cell? ⟨w.heap.size, 1, none⟩ = some (.int .i64 up) := (RB1.out).cell 1
    have b2 : u1.cell? ⟨w.heap.size, 2, none⟩ = some (.int .u8 cls) := (RB1.out).cell 2
    have b3 : u1.cell? ⟨w.heap.size, 3, none⟩ = some (.string name) := (RB1.out).cell 3
    have b4 : u1.cell? ⟨w.heap.size, 4, none⟩ = some (.bool shut) := (RB1.out).cell 4
    have KG1 := Lib.hid (KG.out u1 code HB1.out HC1.out)
    unfold GetRes at KG1
    rw [← HQ.out] at KG1
    obtain ⟨qa, qb, qc, qs, qd, qe, qf⟩ := q
    unfold Acc.val at KG1
    simp only at KG1
    go_wp2_with fail
    refine KG1.out.mono ?_
    rintro e u2 ⟨rfl, hb⟩
    have RB2 := Lib.hid ((RB1.out.later hb).later ((Below.refl _ u2).alloc (Nat.le_refl _) (.cells #[.int .i64 qa, .int .i64 qb, .int .u8 qc, .string qs, .bool qd, .int .i64 qe, .int .i64 qf] TAcc)))
    have HB2 : Hid (Below w.heap.size w (u2.alloc (.cells #[.int .i64 qa, .int .i64 qb, .int .u8 qc, .string qs, .bool qd, .int .i64 qe, .int .i64 qf] TAcc))) := (HB1.out.trans (hb.mono HB1.out.size)).alloc (Nat.le_trans HB1.out.size hb.size) _
    clear hb b0 b1 b2 b3 b4 KG1 RB1 HB1
    cases hs : (M code).isSome with
    | true =>
      rw [hs, if_pos rfl] at hR
      subst hR
      go_wp2_with fail
      go_ret
      exact add_same H.out HB2.out
    | false =>
      rw [hs, if_neg (by decide)] at hR
      have HS := Lib.hid hs
      clear hs
      have b0 : (u2.alloc (.cells #[.int .i64 qa, .int .i64 qb, .int .u8 qc, .string qs, .bool qd, .int .i64 qe, .int .i64 qf] TAcc)).cell? ⟨w.heap.size, 0, none⟩ = some (.int .i64 code) := (RB2.out).cell 0
      have b1 : (u2.alloc (.cells #[.int .i64 qa, .int .i64 qb, .int .u8 qc, .string qs, .bool qd, .int .i64 qe, .int .i64 qf] TAcc)).cell? ⟨w.heap.size, 1, none⟩ = some (.int .i64 up) := (RB2.out).cell 1
      have b2 : (u2.alloc (.cells #[.int .i64 qa, .int .i64 qb, .int .u8 qc, .string qs, .bool qd, .int .i64 qe, .int .i64 qf] TAcc)).cell? ⟨w.heap.size, 2, none⟩ = some (.int .u8 cls) := (RB2.out).cell 2
      have b3 : (u2.alloc (.cells #[.int .i64 qa, .int .i64 qb, .int .u8 qc, .string qs, .bool qd, .int .i64 qe, .int .i64 qf] TAcc)).cell? ⟨w.heap.size, 3, none⟩ = some (.string name) := (RB2.out).cell 3
      have b4 : (u2.alloc (.cells #[.int .i64 qa, .int .i64 qb, .int .u8 qc, .string qs, .bool qd, .int .i64 qe, .int .i64 qf] TAcc)).cell? ⟨w.heap.size, 4, none⟩ = some (.bool shut) := (RB2.out).cell 4
      have KG2 := Lib.hid (KG.out (u2.alloc (.cells #[.int .i64 qa, .int .i64 qb, .int .u8 qc, .string qs, .bool qd, .int .i64 qe, .int .i64 qf] TAcc)) up HB2.out HU1.out)
      unfold GetRes at KG2
      obtain ⟨p, hp⟩ : ∃ p, p = (M up).getD Acc.zero := ⟨_, rfl⟩
      obtain ⟨s, hsu⟩ : ∃ s, s = (M up).isSome := ⟨_, rfl⟩
      rw [← hp, ← hsu] at KG2
      have HPB : Hid (0 ≤ p.depth ∧ p.depth ≤ 1000 ∧ 0 ≤ p.kids ∧ p.kids ≤ 1000000) := by
        rw [hp]
        cases hm : M up with
        | none => exact ⟨by decide, by decide, by decide, by decide⟩
        | some p0 => exact HBD.out up p0 hm
      have HP := Lib.hid hp
      have HSU := Lib.hid hsu
      clear hp hsu KG
      obtain ⟨pa, pb, pc, ps, pd, pe, pf⟩ := p
      unfold Acc.val at KG2
      simp only at KG2
      go_wp2_with fail
      refine KG2.out.mono ?_
      rintro e u3 ⟨rfl, hb⟩
      have RB3 := Lib.hid ((RB2.out.later hb).later ((Below.refl _ u3).alloc (Nat.le_refl _) (.cells #[.int .i64 pa, .int .i64 pb, .int .u8 pc, .string ps, .bool pd, .int .i64 pe, .int .i64 pf] TAcc)))
      have RP3 : Hid (Rw (u3.alloc (.cells #[.int .i64 pa, .int .i64 pb, .int .u8 pc, .string ps, .bool pd, .int .i64 pe, .int .i64 pf] TAcc)) u3.heap.size TAcc [.int .i64 pa, .int .i64 pb, .int .u8 pc, .string ps, .bool pd, .int .i64 pe, .int .i64 pf]) := Rw.new u3 [.int .i64 pa, .int .i64 pb, .int .u8 pc, .string ps, .bool pd, .int .i64 pe, .int .i64 pf] TAcc
      have HB3 : Hid (Below w.heap.size w (u3.alloc (.cells #[.int .i64 pa, .int .i64 pb, .int .u8 pc, .string ps, .bool pd, .int .i64 pe, .int .i64 pf] TAcc))) := (HB2.out.trans (hb.mono HB2.out.size)).alloc (Nat.le_trans HB2.out.size hb.size) _
      have HBP : Hid (w.heap.size < u3.heap.size) := RB2.out.lt |> fun h => Nat.lt_of_lt_of_le h hb.size
      clear hb b0 b1 b2 b3 b4 KG2 RB2 HB2
      go_upto_region 9 with (fail)
      obtain ⟨bp, hbp⟩ : ∃ bp, bp = u3.heap.size := ⟨_, rfl⟩
      generalize u3.alloc (.cells #[.int .i64 pa, .int .i64 pb, .int .u8 pc, .string ps, .bool pd, .int .i64 pe, .int .i64 pf] TAcc) = W3 at RB3 RP3 HB3 ⊢
      rw [← hbp] at RP3 HBP ⊢
      clear hbp
      have b0 : W3.cell? ⟨w.heap.size, 0, none⟩ = some (.int .i64 code) := (RB3.out).cell 0
      have b1 : W3.cell? ⟨w.heap.size, 1, none⟩ = some (.int .i64 up) := (RB3.out).cell 1
      have b2 : W3.cell? ⟨w.heap.size, 2, none⟩ = some (.int .u8 cls) := (RB3.out).cell 2
      have b3 : W3.cell? ⟨w.heap.size, 3, none⟩ = some (.string name) := (RB3.out).cell 3
      have b4 : W3.cell? ⟨w.heap.size, 4, none⟩ = some (.bool shut) := (RB3.out).cell 4
      have q0 : W3.cell? ⟨bp, 0, none⟩ = some (.int .i64 pa) := RP3.out.cell 0
      have q1 : W3.cell? ⟨bp, 1, none⟩ = some (.int .i64 pb) := RP3.out.cell 1
      have q2 : W3.cell? ⟨bp, 2, none⟩ = some (.int .u8 pc) := RP3.out.cell 2
      have q3 : W3.cell? ⟨bp, 3, none⟩ = some (.string ps) := RP3.out.cell 3
      have q4 : W3.cell? ⟨bp, 4, none⟩ = some (.bool pd) := RP3.out.cell 4
      have q5 : W3.cell? ⟨bp, 5, none⟩ = some (.int .i64 pe) := RP3.out.cell 5
      have q6 : W3.cell? ⟨bp, 6, none⟩ = some (.int .i64 pf) := RP3.out.cell 6
      have qf6 := RP3.out.frozen 6
      by_cases hup : up = 0
      · subst hup
        rw [if_pos rfl, ← HP.out] at hR
        subst hR
        obtain ⟨x1, x2, -, -⟩ := HPB.out
        try simp only at x1 x2
        have KW : Hid (Keeps (Bs c bm tv) w W3.drew) := (Keeps.of _ HB3.out).drew
        have HA := Lib.hid (H.out.keeps ((Keeps.of (fun _ => False) HB3.out).drew) fun _ _ h => h)
        have KS := Lib.hid (set_c HA.out code ⟨code, 0, cls, name, shut, pe + 1, 0⟩ HC1.out (by omega) (by omega))
        unfold Acc.val at KS
        simp only at KS
        go_upto_region 18 with (fail)
        go_still_tail 10, (by kernel_rfl)
        change wpList _ _ _ _ _ W3.drew
        go_wp2_with fail
        refine KS.out.mono ?_
        rintro e w1 ⟨rfl, tv', K', hA, hl, hk, hB⟩
        go_wp2_with fail
        go_ret
        exact ⟨rfl, tv', K', n + 1, by omega, .inl rfl, hA, KW.out.trans hk, fun j hj => (hB j hj).elim .inl fun h => .inr (Nat.le_trans HB3.out.size h)⟩
      · rw [if_neg hup] at hR
        have bup : (up != 0) = true := by simpa using hup
        cases s with
        | false =>
          have hm : M up = none := by
            have := HSU.out
            cases hmm : M up with
            | none => rfl
            | some _ => rw [hmm] at this; cases this
          rw [hm] at hR
          subst hR
          clear hm hup
          go_wp2_with fail
          go_ret
          exact add_same H.out HB3.out
        | true =>
          have hm : M up = some ⟨pa, pb, pc, ps, pd, pe, pf⟩ := by
            have h1 := HSU.out
            have h2 := HP.out
            cases hmm : M up with
            | none => rw [hmm] at h1; cases h1
            | some p0 => rw [hmm] at h2; rw [h2]; rfl
          rw [hm] at hR
          simp only at hR
          have HM := Lib.hid hm
          clear hm hup
          cases pd with
          | true =>
            rw [if_pos (.inl rfl)] at hR
            subst hR
            go_wp2_with fail
            go_ret
            exact add_same H.out HB3.out
          | false =>
            by_cases hcl : pc = cls
            · subst hcl
              by_cases hdp : 8 ≤ pe
              · rw [if_pos (.inr (.inr hdp))] at hR
                subst hR
                go_wp2_with fail
                go_ret
                exact add_same H.out HB3.out
              · rw [if_neg (by rintro (h | h | h); cases h; exact h rfl; exact hdp h)] at hR
                subst hR
                obtain ⟨x1, x2, x3, x4⟩ := HPB.out
                try simp only at x1 x2 x3 x4
                go_upto_region 17 with (fail)
                have HNE : Hid (w.heap.size ≠ bp) := Nat.ne_of_lt HBP.out
                have RP5 : Hid (Rw (W3.setCell ⟨bp, 6, none⟩ (.int .i64 (pf + 1))) bp TAcc [.int .i64 pa, .int .i64 pb, .int .u8 pc, .string ps, .bool false, .int .i64 pe, .int .i64 (pf + 1)]) := RP3.out.setCell 6 _
                have RB5 : Hid (Rw (W3.setCell ⟨bp, 6, none⟩ (.int .i64 (pf + 1))) w.heap.size 35 [.int .i64 code, .int .i64 up, .int .u8 pc, .string name, .bool shut]) := RB3.out.otherCell bp 6 _ HNE.out
                have HB5 : Hid (Below w.heap.size w (W3.setCell ⟨bp, 6, none⟩ (.int .i64 (pf + 1)))) := Keeps.belowT HB3.out ((Keeps.refl (fun j => j = bp) W3).setCell bp 6 _ (.inl rfl)) (fun j hj => by cases hj; exact Nat.le_of_lt HBP.out) HB3.out.size
                generalize W3.setCell ⟨bp, 6, none⟩ (.int .i64 (pf + 1)) = W5 at RP5 RB5 HB5 ⊢
                clear b0 b1 b2 b3 b4 q0 q1 q2 q3 q4 q5 q6
                clear qf6 RP3 RB3 HB3
                have b0 : W5.cell? ⟨w.heap.size, 0, none⟩ = some (.int .i64 code) := (RB5.out).cell 0
                have b1 : W5.cell? ⟨w.heap.size, 1, none⟩ = some (.int .i64 up) := (RB5.out).cell 1
                have b2 : W5.cell? ⟨w.heap.size, 2, none⟩ = some (.int .u8 pc) := (RB5.out).cell 2
                have b3 : W5.cell? ⟨w.heap.size, 3, none⟩ = some (.string name) := (RB5.out).cell 3
                have b4 : W5.cell? ⟨w.heap.size, 4, none⟩ = some (.bool shut) := (RB5.out).cell 4
                have q0 : W5.cell? ⟨bp, 0, none⟩ = some (.int .i64 pa) := (RP5.out).cell 0
                have q1 : W5.cell? ⟨bp, 1, none⟩ = some (.int .i64 pb) := (RP5.out).cell 1
                have q2 : W5.cell? ⟨bp, 2, none⟩ = some (.int .u8 pc) := (RP5.out).cell 2
                have q3 : W5.cell? ⟨bp, 3, none⟩ = some (.string ps) := (RP5.out).cell 3
                have q4 : W5.cell? ⟨bp, 4, none⟩ = some (.bool false) := (RP5.out).cell 4
                have q5 : W5.cell? ⟨bp, 5, none⟩ = some (.int .i64 pe) := (RP5.out).cell 5
                have q6 : W5.cell? ⟨bp, 6, none⟩ = some (.int .i64 (pf + 1)) := (RP5.out).cell 6
                have HA5 := Lib.hid (H.out.keeps ((Keeps.of (fun _ => False) HB5.out).drew) fun _ _ h => h)
                have KS5 := Lib.hid (set_c HA5.out up ⟨pa, pb, pc, ps, false, pe, pf + 1⟩ HU1.out (by omega) (by omega))
                unfold Acc.val at KS5
                simp only at KS5
                go_still_tail 6, (by kernel_rfl)
                change wpList _ _ _ _ _ W5.drew
                go_wp2_with fail
                refine KS5.out.mono ?_
                rintro e w1 ⟨rfl, tv1, K1, hA1, hl1, hk1, hB1⟩
                have HA6 := Lib.hid hA1
                have HK6 : Hid (Keeps (Bs c bm tv) W5.drew w1) := hk1
                have HB6 := Lib.hid hB1
                have RB6 := Lib.hid (RB5.out.drew.keeps hk1 fun h => Nat.lt_irrefl _ (H.out.lt _ h))
                have RP6 := Lib.hid (RP5.out.drew.keeps hk1 fun h => Nat.lt_asymm HBP.out (H.out.lt _ h))
                clear b0 b1 b2 b3 b4 q0 q1 q2 q3 q4 q5 q6
                clear hA1 hk1 hB1 KS5
                have b0 : w1.cell? ⟨w.heap.size, 0, none⟩ = some (.int .i64 code) := (RB6.out).cell 0
                have b1 : w1.cell? ⟨w.heap.size, 1, none⟩ = some (.int .i64 up) := (RB6.out).cell 1
                have b2 : w1.cell? ⟨w.heap.size, 2, none⟩ = some (.int .u8 pc) := (RB6.out).cell 2
                have b3 : w1.cell? ⟨w.heap.size, 3, none⟩ = some (.string name) := (RB6.out).cell 3
                have b4 : w1.cell? ⟨w.heap.size, 4, none⟩ = some (.bool shut) := (RB6.out).cell 4
                have q0 : w1.cell? ⟨bp, 0, none⟩ = some (.int .i64 pa) := (RP6.out).cell 0
                have q1 : w1.cell? ⟨bp, 1, none⟩ = some (.int .i64 pb) := (RP6.out).cell 1
                have q2 : w1.cell? ⟨bp, 2, none⟩ = some (.int .u8 pc) := (RP6.out).cell 2
                have q3 : w1.cell? ⟨bp, 3, none⟩ = some (.string ps) := (RP6.out).cell 3
                have q4 : w1.cell? ⟨bp, 4, none⟩ = some (.bool false) := (RP6.out).cell 4
                have q5 : w1.cell? ⟨bp, 5, none⟩ = some (.int .i64 pe) := (RP6.out).cell 5
                have q6 : w1.cell? ⟨bp, 6, none⟩ = some (.int .i64 (pf + 1)) := (RP6.out).cell 6
                have HA7 := Lib.hid (HA6.out.keeps ((Keeps.refl (fun _ => False) w1).drew) fun _ _ h => h)
                have KS7 := Lib.hid (set_c HA7.out code ⟨code, up, pc, name, shut, pe + 1, 0⟩ HC1.out (by omega) (by omega))
                unfold Acc.val at KS7
                simp only at KS7
                go_upto_region 18 with (fail)
                go_still_tail 10, (by kernel_rfl)
                change wpList _ _ _ _ _ w1.drew
                go_wp2_with fail
                refine KS7.out.mono ?_
                rintro e w2 ⟨rfl, tv2, K2, hA2, hl2, hk2, hB2⟩
                go_wp2_with fail
                go_ret
                have hs5 : w.heap.size ≤ w1.heap.size := Nat.le_trans HB5.out.size HK6.out.size
                have hT : ∀ j, Bs c bm tv1 j → Bs c bm tv j ∨ w.heap.size ≤ j := fun j hj => (HB6.out j hj).elim .inl fun h => .inr (Nat.le_trans HB5.out.size h)
                exact ⟨rfl, tv2, K2, n + 1 + 1, by omega, .inl rfl, hA2, ((Keeps.of _ HB5.out).drew.trans HK6.out).drew.then hk2 hT, fun j hj => (hB2 j hj).elim (hT j) fun h => .inr (Nat.le_trans hs5 h)⟩
            · rw [if_pos (.inr (.inl hcl))] at hR
              subst hR
              have bcl : (pc != cls) = true := by simpa using hcl
              clear hcl
              go_wp2_with fail
              go_ret
              exact add_same H.out HB3.out
end
end Go.Proofs.Ytnblilonjpfdnaa.Ch
end
section
namespace Go.Proofs.Ytnblilonjpfdnaa.Ch
open Go Go.RowKit Ck Go.Maps
def leafM (M : Int → Option Acc) (k : Int) : Bool := (M k).isSome && decide (((M k).getD Acc.zero).kids = 0)
section
variable {w : World} {c bm n : Nat} {tv : Value} {M : Int → Option Acc} {K : List Int}
set_option maxRecDepth 100000 in
theorem leaf_c (h : At w c bm tv n M K) (k : Int) (hk : I64 k) : Calls Try.prog 33 #[.pointer (some ⟨c, 0, none⟩), .int .i64 k] w fun e w' => e = .returned (.bool (leafM M k)) ∧ Below w.heap.size w w' := by
  have KG := Lib.hid (get_c h k hk)
  unfold GetRes at KG
  unfold leafM
  obtain ⟨x, hx⟩ : ∃ x, x = (M k).getD Acc.zero := ⟨_, rfl⟩
  obtain ⟨q, hq⟩ : ∃ q, q = (M k).isSome := ⟨_, rfl⟩
  rw [← hx, ← hq] at KG ⊢
  clear h hx hq hk
  obtain ⟨xa, xb, xc, xs, xd, xe, xf⟩ := x
  unfold Acc.val at KG
  simp only at KG ⊢
  go_enter Try.func33, Try.ntmps33
  go_wp2_with fail
  refine KG.out.mono ?_
  rintro e u ⟨rfl, hb⟩
  have HB : Hid (Below w.heap.size w (u.alloc (.cells #[.int .i64 xa, .int .i64 xb, .int .u8 xc, .string xs, .bool xd, .int .i64 xe, .int .i64 xf] TAcc))) := hb.alloc hb.size _
  have R : Hid (Rw (u.alloc (.cells #[.int .i64 xa, .int .i64 xb, .int .u8 xc, .string xs, .bool xd, .int .i64 xe, .int .i64 xf] TAcc)) u.heap.size TAcc [.int .i64 xa, .int .i64 xb, .int .u8 xc, .string xs, .bool xd, .int .i64 xe, .int .i64 xf]) := Rw.new u [.int .i64 xa, .int .i64 xb, .int .u8 xc, .string xs, .bool xd, .int .i64 xe, .int .i64 xf] TAcc
  clear hb
  cases q with
  | false =>
    go_wp2_with fail
    go_ret
    exact ⟨rfl, HB.out⟩
  | true =>
    have q2 : (u.alloc (.cells #[.int .i64 xa, .int .i64 xb, .int .u8 xc, .string xs, .bool xd, .int .i64 xe, .int .i64 xf] TAcc)).cell? ⟨u.heap.size, 6, none⟩ = some (.int .i64 xf) := R.out.cell 6
    by_cases h0 : xf = 0
    · subst h0
      go_wp2_with fail
      go_ret
      exact ⟨by simp, HB.out⟩
    · go_wp2_with fail
      go_ret
      exact ⟨by simp [h0], HB.out⟩
end
end Go.Proofs.Ytnblilonjpfdnaa.Ch
end
section
namespace Go.Proofs.Ytnblilonjpfdnaa.Ch
open Go Go.RowKit Ck Go.Maps
def A5.zero : A5 := ⟨0, 0, 0, ⟨#[]⟩, false⟩
def Acc.told (x : Acc) : A5 := ⟨x.code, x.up, x.cls, x.name, x.shut⟩
def getM (M : Int → Option Acc) (k : Int) : A5 × Int := if (M k).isSome = true then (((M k).getD Acc.zero).told, 0) else (A5.zero, 7)
section
variable {w : World} {c bm n : Nat} {tv : Value} {M : Int → Option Acc} {K : List Int}
set_option maxRecDepth 100000 in
theorem gets_nil (k : Int) (w : World) : Calls Try.prog 31 #[.pointer none, .int .i64 k] w fun e w' => e = .returned (.tuple #[A5.zero.val, .int .i64 1]) ∧ Below w.heap.size w w' := by
  have HB0 : Hid (Below w.heap.size w (w.alloc (.cells #[.int .i64 0, .int .i64 0, .int .u8 0, .string ⟨#[]⟩, .bool false] 35))) := (Below.refl _ w).alloc (Nat.le_refl _) _
  have R0 : Hid (Rw (w.alloc (.cells #[.int .i64 0, .int .i64 0, .int .u8 0, .string ⟨#[]⟩, .bool false] 35)) w.heap.size 35 [.int .i64 0, .int .i64 0, .int .u8 0, .string ⟨#[]⟩, .bool false]) := Rw.new w [.int .i64 0, .int .i64 0, .int .u8 0, .string ⟨#[]⟩, .bool false] _
  have HINF : Hid ((Try.prog.info? 35).map (·.size) = some 5) := by show _ = _; kernel_rfl
  have KI := Lib.hid is_nil
  unfold A5.val A5.zero
  simp only
  go_enter Try.func31, Try.ntmps31
  go_wp2_with fail
  generalize w.alloc (.cells #[.int .i64 0, .int .i64 0, .int .u8 0, .string ⟨#[]⟩, .bool false] 35) = W0 at HB0 R0 ⊢
  refine (KI.out _).mono ?_
  rintro e w' ⟨rfl, rfl⟩
  have R2 : Hid (Rw (W0.setCells w.heap.size 0 #[.int .i64 0, .int .i64 0, .int .u8 0, .string ⟨#[]⟩, .bool false].toList) w.heap.size 35 [.int .i64 0, .int .i64 0, .int .u8 0, .string ⟨#[]⟩, .bool false]) := by
    have := R0.out.setCells (cs := [.int .i64 0, .int .i64 0, .int .u8 0, .string ⟨#[]⟩, .bool false]) 0 (by simp)
    exact this
  have HB2 : Hid (Below w.heap.size w (W0.setCells w.heap.size 0 #[.int .i64 0, .int .i64 0, .int .u8 0, .string ⟨#[]⟩, .bool false].toList)) := Keeps.belowT HB0.out ((Keeps.refl (fun j => j = w.heap.size) _).setCells w.heap.size 0 _ (.inl rfl)) (fun j hj => Nat.le_of_eq hj.symm) HB0.out.size
  go_wp2_with (with_reducible refine wpList_store_mid rfl 35 _ _ rfl w.heap.size 0 #[.int .i64 0, .int .i64 0, .int .u8 0, .string ⟨#[]⟩, .bool false] rfl rfl ?thr ?inf ?one ?_)
  case thr => exact R0.out.there 0 5 (by simp)
  case inf => simpa using HINF.out
  case one => simp [Value.oneCell']
  generalize W0.setCells w.heap.size 0 #[.int .i64 0, .int .i64 0, .int .u8 0, .string ⟨#[]⟩, .bool false].toList = W2 at R2 HB2 ⊢
  go_wp2_with fail
  have r0 : W2.cell? ⟨w.heap.size, 0, none⟩ = some (.int .i64 0) := R2.out.cell 0
  have r1 : W2.cell? ⟨w.heap.size, 1, none⟩ = some (.int .i64 0) := R2.out.cell 1
  have r2 : W2.cell? ⟨w.heap.size, 2, none⟩ = some (.int .u8 0) := R2.out.cell 2
  have r3 : W2.cell? ⟨w.heap.size, 3, none⟩ = some (.string ⟨#[]⟩) := R2.out.cell 3
  have r4 : W2.cell? ⟨w.heap.size, 4, none⟩ = some (.bool false) := R2.out.cell 4
  refine bodyPost_ret (v := .tuple #[.agg #[.int .i64 0, .int .i64 0, .int .u8 0, .string ⟨#[]⟩, .bool false], .int .i64 1]) (by simp [results, Try.results31, go_sem, r0, r1, r2, r3, r4]) rfl ?_
  exact ⟨rfl, HB2.out⟩
set_option maxRecDepth 100000 in
theorem gets_zero (h : Rw w c TCh [.map none, .slice none 0 0]) (k : Int) : Calls Try.prog 31 #[.pointer (some ⟨c, 0, none⟩), .int .i64 k] w fun e w' => e = .returned (.tuple #[A5.zero.val, .int .i64 1]) ∧ Below w.heap.size w w' := by
  have HB0 : Hid (Below w.heap.size w (w.alloc (.cells #[.int .i64 0, .int .i64 0, .int .u8 0, .string ⟨#[]⟩, .bool false] 35))) := (Below.refl _ w).alloc (Nat.le_refl _) _
  have R0 : Hid (Rw (w.alloc (.cells #[.int .i64 0, .int .i64 0, .int .u8 0, .string ⟨#[]⟩, .bool false] 35)) w.heap.size 35 [.int .i64 0, .int .i64 0, .int .u8 0, .string ⟨#[]⟩, .bool false]) := Rw.new w [.int .i64 0, .int .i64 0, .int .u8 0, .string ⟨#[]⟩, .bool false] _
  have HINF : Hid ((Try.prog.info? 35).map (·.size) = some 5) := by show _ = _; kernel_rfl
  have KI := Lib.hid (is_zero (h.later HB0.out))
  unfold A5.val A5.zero
  simp only
  go_enter Try.func31, Try.ntmps31
  go_wp2_with fail
  generalize w.alloc (.cells #[.int .i64 0, .int .i64 0, .int .u8 0, .string ⟨#[]⟩, .bool false] 35) = W0 at HB0 R0 KI ⊢
  refine KI.out.mono ?_
  rintro e w' ⟨rfl, rfl⟩
  have R2 : Hid (Rw (W0.setCells w.heap.size 0 #[.int .i64 0, .int .i64 0, .int .u8 0, .string ⟨#[]⟩, .bool false].toList) w.heap.size 35 [.int .i64 0, .int .i64 0, .int .u8 0, .string ⟨#[]⟩, .bool false]) := by
    have := R0.out.setCells (cs := [.int .i64 0, .int .i64 0, .int .u8 0, .string ⟨#[]⟩, .bool false]) 0 (by simp)
    exact this
  have HB2 : Hid (Below w.heap.size w (W0.setCells w.heap.size 0 #[.int .i64 0, .int .i64 0, .int .u8 0, .string ⟨#[]⟩, .bool false].toList)) := Keeps.belowT HB0.out ((Keeps.refl (fun j => j = w.heap.size) _).setCells w.heap.size 0 _ (.inl rfl)) (fun j hj => Nat.le_of_eq hj.symm) HB0.out.size
  go_wp2_with (with_reducible refine wpList_store_mid rfl 35 _ _ rfl w.heap.size 0 #[.int .i64 0, .int .i64 0, .int .u8 0, .string ⟨#[]⟩, .bool false] rfl rfl ?thr ?inf ?one ?_)
  case thr => exact R0.out.there 0 5 (by simp)
  case inf => simpa using HINF.out
  case one => simp [Value.oneCell']
  generalize W0.setCells w.heap.size 0 #[.int .i64 0, .int .i64 0, .int .u8 0, .string ⟨#[]⟩, .bool false].toList = W2 at R2 HB2 ⊢
  go_wp2_with fail
  have r0 : W2.cell? ⟨w.heap.size, 0, none⟩ = some (.int .i64 0) := R2.out.cell 0
  have r1 : W2.cell? ⟨w.heap.size, 1, none⟩ = some (.int .i64 0) := R2.out.cell 1
  have r2 : W2.cell? ⟨w.heap.size, 2, none⟩ = some (.int .u8 0) := R2.out.cell 2
  have r3 : W2.cell? ⟨w.heap.size, 3, none⟩ = some (.string ⟨#[]⟩) := R2.out.cell 3
  have r4 : W2.cell? ⟨w.heap.size, 4, none⟩ = some (.bool false) := R2.out.cell 4
  refine bodyPost_ret (v := .tuple #[.agg #[.int .i64 0, .int .i64 0, .int .u8 0, .string ⟨#[]⟩, .bool false], .int .i64 1]) (by simp [results, Try.results31, go_sem, r0, r1, r2, r3, r4]) rfl ?_
  exact ⟨rfl, HB2.out⟩
set_option maxRecDepth 100000 in
theorem gets_c (h : At w c bm tv n M K) (k : Int) (hk : I64 k) : Calls Try.prog 31 #[.pointer (some ⟨c, 0, none⟩), .int .i64 k] w fun e w' => e = .returned (.tuple #[(getM M k).1.val, .int .i64 (getM M k).2]) ∧ Below w.heap.size w w' := by
  have HB0 : Hid (Below w.heap.size w (w.alloc (.cells #[.int .i64 0, .int .i64 0, .int .u8 0, .string ⟨#[]⟩, .bool false] 35))) := (Below.refl _ w).alloc (Nat.le_refl _) _
  have R0 : Hid (Rw (w.alloc (.cells #[.int .i64 0, .int .i64 0, .int .u8 0, .string ⟨#[]⟩, .bool false] 35)) w.heap.size 35 [.int .i64 0, .int .i64 0, .int .u8 0, .string ⟨#[]⟩, .bool false]) := Rw.new w [.int .i64 0, .int .i64 0, .int .u8 0, .string ⟨#[]⟩, .bool false] _
  have HINF : Hid ((Try.prog.info? 35).map (·.size) = some 5) := by show _ = _; kernel_rfl
  have KI := Lib.hid (is_c (h.later HB0.out))
  have KG := Lib.hid (get_c (h.later HB0.out) k hk)
  unfold GetRes at KG
  unfold getM
  obtain ⟨x, hx⟩ : ∃ x, x = (M k).getD Acc.zero := ⟨_, rfl⟩
  obtain ⟨q, hq⟩ : ∃ q, q = (M k).isSome := ⟨_, rfl⟩
  rw [← hx, ← hq] at KG ⊢
  obtain ⟨r, hr⟩ : ∃ r, r = (if q = true then (x.told, (0 : Int)) else (A5.zero, 7)) := ⟨_, rfl⟩
  rw [← hr]
  clear h hx hq hk
  obtain ⟨xa, xb, xc, xs, xd, xe, xf⟩ := x
  unfold Acc.val at KG
  simp only at KG
  go_enter Try.func31, Try.ntmps31
  go_wp2_with fail
  generalize w.alloc (.cells #[.int .i64 0, .int .i64 0, .int .u8 0, .string ⟨#[]⟩, .bool false] 35) = W0 at HB0 R0 KI KG ⊢
  refine KI.out.mono ?_
  rintro e w' ⟨rfl, rfl⟩
  go_wp2_with fail
  refine KG.out.mono ?_
  rintro e u ⟨rfl, hb⟩
  have R1 := Lib.hid ((R0.out.later hb).later ((Below.refl _ u).alloc (Nat.le_refl _) (.cells #[.int .i64 xa, .int .i64 xb, .int .u8 xc, .string xs, .bool xd, .int .i64 xe, .int .i64 xf] TAcc)))
  have HB1 : Hid (Below w.heap.size w (u.alloc (.cells #[.int .i64 xa, .int .i64 xb, .int .u8 xc, .string xs, .bool xd, .int .i64 xe, .int .i64 xf] TAcc))) := (HB0.out.trans (hb.mono HB0.out.size)).alloc (Nat.le_trans HB0.out.size hb.size) _
  have RX : Hid (Rw (u.alloc (.cells #[.int .i64 xa, .int .i64 xb, .int .u8 xc, .string xs, .bool xd, .int .i64 xe, .int .i64 xf] TAcc)) u.heap.size TAcc [.int .i64 xa, .int .i64 xb, .int .u8 xc, .string xs, .bool xd, .int .i64 xe, .int .i64 xf]) := Rw.new u [.int .i64 xa, .int .i64 xb, .int .u8 xc, .string xs, .bool xd, .int .i64 xe, .int .i64 xf] TAcc
  clear hb R0 KI KG HB0
  go_upto_region 4 with (fail)
  obtain ⟨bx, hbx⟩ : ∃ bx, bx = u.heap.size := ⟨_, rfl⟩
  generalize u.alloc (.cells #[.int .i64 xa, .int .i64 xb, .int .u8 xc, .string xs, .bool xd, .int .i64 xe, .int .i64 xf] TAcc) = W1 at R1 HB1 RX ⊢
  rw [← hbx] at RX ⊢
  clear hbx
  cases q with
  | false =>
    rw [if_neg (by decide)] at hr
    subst hr
    have R2 : Hid (Rw (W1.setCells w.heap.size 0 #[.int .i64 0, .int .i64 0, .int .u8 0, .string ⟨#[]⟩, .bool false].toList) w.heap.size 35 [.int .i64 0, .int .i64 0, .int .u8 0, .string ⟨#[]⟩, .bool false]) := by
      have := R1.out.setCells (cs := [.int .i64 0, .int .i64 0, .int .u8 0, .string ⟨#[]⟩, .bool false]) 0 (by simp)
      exact this
    have HB2 : Hid (Below w.heap.size w (W1.setCells w.heap.size 0 #[.int .i64 0, .int .i64 0, .int .u8 0, .string ⟨#[]⟩, .bool false].toList)) := Keeps.belowT HB1.out ((Keeps.refl (fun j => j = w.heap.size) _).setCells w.heap.size 0 _ (.inl rfl)) (fun j hj => Nat.le_of_eq hj.symm) HB1.out.size
    go_wp2_with (with_reducible refine wpList_store_mid rfl 35 _ _ rfl w.heap.size 0 #[.int .i64 0, .int .i64 0, .int .u8 0, .string ⟨#[]⟩, .bool false] rfl rfl ?thr ?inf ?one ?_)
    case thr => exact R1.out.there 0 5 (by simp)
    case inf => simpa using HINF.out
    case one => simp [Value.oneCell']
    generalize W1.setCells w.heap.size 0 #[.int .i64 0, .int .i64 0, .int .u8 0, .string ⟨#[]⟩, .bool false].toList = W2 at R2 HB2 ⊢
    go_wp2_with fail
    have r0 : W2.cell? ⟨w.heap.size, 0, none⟩ = some (.int .i64 0) := R2.out.cell 0
    have r1 : W2.cell? ⟨w.heap.size, 1, none⟩ = some (.int .i64 0) := R2.out.cell 1
    have r2 : W2.cell? ⟨w.heap.size, 2, none⟩ = some (.int .u8 0) := R2.out.cell 2
    have r3 : W2.cell? ⟨w.heap.size, 3, none⟩ = some (.string ⟨#[]⟩) := R2.out.cell 3
    have r4 : W2.cell? ⟨w.heap.size, 4, none⟩ = some (.bool false) := R2.out.cell 4
    refine bodyPost_ret (v := .tuple #[.agg #[.int .i64 0, .int .i64 0, .int .u8 0, .string ⟨#[]⟩, .bool false], .int .i64 7]) (by simp [results, Try.results31, go_sem, r0, r1, r2, r3, r4]) rfl ?_
    exact ⟨rfl, HB2.out⟩
  | true =>
    rw [if_pos rfl] at hr
    subst hr
    have s0 : W1.cell? ⟨bx, 0, none⟩ = some (.int .i64 xa) := RX.out.cell 0
    have s1 : W1.cell? ⟨bx, 1, none⟩ = some (.int .i64 xb) := RX.out.cell 1
    have s2 : W1.cell? ⟨bx, 2, none⟩ = some (.int .u8 xc) := RX.out.cell 2
    have s3 : W1.cell? ⟨bx, 3, none⟩ = some (.string xs) := RX.out.cell 3
    have s4 : W1.cell? ⟨bx, 4, none⟩ = some (.bool xd) := RX.out.cell 4
    have R2 : Hid (Rw (W1.setCells w.heap.size 0 #[.int .i64 xa, .int .i64 xb, .int .u8 xc, .string xs, .bool xd].toList) w.heap.size 35 [.int .i64 xa, .int .i64 xb, .int .u8 xc, .string xs, .bool xd]) := by
      have := R1.out.setCells (cs := [.int .i64 xa, .int .i64 xb, .int .u8 xc, .string xs, .bool xd]) 0 (by simp)
      exact this
    have HB2 : Hid (Below w.heap.size w (W1.setCells w.heap.size 0 #[.int .i64 xa, .int .i64 xb, .int .u8 xc, .string xs, .bool xd].toList)) := Keeps.belowT HB1.out ((Keeps.refl (fun j => j = w.heap.size) _).setCells w.heap.size 0 _ (.inl rfl)) (fun j hj => Nat.le_of_eq hj.symm) HB1.out.size
    go_wp2_with (with_reducible refine wpList_store_mid rfl 35 _ _ rfl w.heap.size 0 #[.int .i64 xa, .int .i64 xb, .int .u8 xc, .string xs, .bool xd] rfl rfl ?thr ?inf ?one ?_)
    case thr => exact R1.out.there 0 5 (by simp)
    case inf => simpa using HINF.out
    case one => simp [Value.oneCell']
    generalize W1.setCells w.heap.size 0 #[.int .i64 xa, .int .i64 xb, .int .u8 xc, .string xs, .bool xd].toList = W2 at R2 HB2 ⊢
    go_wp2_with fail
    have r0 : W2.cell? ⟨w.heap.size, 0, none⟩ = some (.int .i64 xa) := R2.out.cell 0
    have r1 : W2.cell? ⟨w.heap.size, 1, none⟩ = some (.int .i64 xb) := R2.out.cell 1
    have r2 : W2.cell? ⟨w.heap.size, 2, none⟩ = some (.int .u8 xc) := R2.out.cell 2
    have r3 : W2.cell? ⟨w.heap.size, 3, none⟩ = some (.string xs) := R2.out.cell 3
    have r4 : W2.cell? ⟨w.heap.size, 4, none⟩ = some (.bool xd) := R2.out.cell 4
    refine bodyPost_ret (v := .tuple #[.agg #[.int .i64 xa, .int .i64 xb, .int .u8 xc, .string xs, .bool xd], .int .i64 0]) (by simp [results, Try.results31, go_sem, r0, r1, r2, r3, r4]) rfl ?_
    exact ⟨rfl, HB2.out⟩
end
end Go.Proofs.Ytnblilonjpfdnaa.Ch
end
