/- Package codec: places, what is picked, letters. -/
import Derived.Test.YtialjglgkfcdmaaCoCheck
import Derived.Test.YtialjglgkfcdmaaOrApp
import Derived.Test.YtialjglgkfcdmaaOrRBytes0
import Derived.Deep.AppendLies
namespace Go.Proofs.Ytialjglgkfcdmaa.Or
open Go.RowKit Cm
def placesF (S : Sch) (n : Int) : List Int := if n < 0 then (List.range S.key.toNat).map fun (i : Nat) => (i : Int) else S.idx.getD n.toNat []
def thereB (S : Sch) (n : Int) : Bool := chkB S && decide (-1 ≤ n) && decide (n < S.idx.length)
theorem there_chk {S : Sch} {n : Int} (h : thereB S n = true) : chkB S = true ∧ -1 ≤ n ∧ n < S.idx.length := by
  unfold thereB at h
  simp only [Bool.and_eq_true, decide_eq_true_eq] at h
  exact ⟨h.1.1, h.1.2, h.2⟩
theorem chk_parts {S : Sch} (h : chkB S = true) : namedB S.name = true ∧ 0 < S.kinds.size ∧ kindsB S.kinds.data.toList = true ∧ 1 ≤ S.key ∧ S.key ≤ S.kinds.size ∧ S.idx.length ≤ 8 ∧ ∀ z ∈ S.idx, placedB z S.kinds.size = true := by
  unfold chkB at h
  simp only [Bool.and_eq_true, decide_eq_true_eq, List.all_eq_true] at h
  obtain ⟨⟨⟨⟨⟨⟨h1, h2⟩, h3⟩, h4⟩, h5⟩, h6⟩, h7⟩ := h
  exact ⟨h1, h2, h3, h4, h5, h6, h7⟩
theorem placed_in {zs : List Int} {n : Int} (h : placedB zs n = true) : 0 < zs.length ∧ ∀ z ∈ zs, 0 ≤ z ∧ z < n := by
  unfold placedB at h
  simp only [Bool.and_eq_true, decide_eq_true_eq, List.all_eq_true] at h
  refine ⟨h.2, fun z hz => ?_⟩
  obtain ⟨j, hj, rfl⟩ := List.getElem_of_mem hz
  have := h.1 j (List.mem_range.2 hj)
  rw [okAt_at hj] at this
  simp only [Bool.and_eq_true, decide_eq_true_eq] at this
  exact this.1
theorem places_in {S : Sch} {n : Int} (h : thereB S n = true) : ∀ z ∈ placesF S n, 0 ≤ z ∧ z < S.kinds.size := by
  obtain ⟨hc, h1, h2⟩ := there_chk h
  obtain ⟨-, -, -, h4, h5, -, h7⟩ := chk_parts hc
  unfold placesF
  by_cases hn : n < 0
  · rw [if_pos hn]
    intro z hz
    obtain ⟨i, hi, rfl⟩ := List.mem_map.1 hz
    have := List.mem_range.1 hi
    omega
  · rw [if_neg hn]
    have hk : n.toNat < S.idx.length := by omega
    rw [show S.idx.getD n.toNat [] = S.idx[n.toNat] by simp [hk]]
    exact (placed_in (h7 _ (List.getElem_mem hk))).2
theorem places_len {S : Sch} {n : Int} (h : thereB S n = true) (hS : SmallS S) : (placesF S n).length ≤ 40 := by
  obtain ⟨hc, h1, h2⟩ := there_chk h
  obtain ⟨-, -, -, h4, h5, -, h7⟩ := chk_parts hc
  have := hS.kinds
  unfold placesF
  by_cases hn : n < 0
  · rw [if_pos hn, List.length_map, List.length_range]; omega
  · rw [if_neg hn]
    have hk : n.toNat < S.idx.length := by omega
    rw [show S.idx.getD n.toNat [] = S.idx[n.toNat] by simp [hk]]
    have := hS.each _ (List.getElem_mem hk)
    omega
/-- What is at some places. -/
def pickL {α : Type} (d : α) (l : List α) (zs : List Int) : List α := zs.map fun z => l.getD z.toNat d
theorem pick_next {α : Type} (d : α) (l : List α) (zs : List Int) (k : Nat) (h : k < zs.length) : pickL d l (zs.take (k + 1)) = pickL d l (zs.take k) ++ [l.getD zs[k].toNat d] := by
  unfold pickL
  rw [List.take_succ_eq_append_getElem h, List.map_append]; rfl
/-- A row of ints of one's own. -/
def OwnI (base : Nat) (w : World) (v : Value) (zs : List Int) : Prop := w.ownsRow base 3 1 v zs.length (zs.map fun z => .int .i64 z)
theorem OwnI.nil (base : Nat) (w : World) : OwnI base w (.slice none 0 0) [] := World.ownsRow_nil w _ _ _
theorem OwnI.ge {w : World} {base k : Nat} {v : Value} {l : List Int} (h : OwnI base w v l) (hk : v.ownBlock = some k) : base ≤ k ∧ k < w.heap.size := World.ownsRow.lt h k hk
theorem OwnI.later {w w' : World} {base : Nat} {v : Value} {l : List Int} (h : OwnI base w v l) (hb : Below w.heap.size w w') : OwnI base w' v l := Rf.own_later h hb
theorem OwnI.ints {w : World} {base : Nat} {v : Value} {l : List Int} (h : OwnI base w v l) : ∃ a cap, v = .slice a l.length cap ∧ Ints w a l := by
  rcases h.2 with ⟨rfl, h0⟩ | ⟨g, cap, cur, rfl, hg, _⟩
  · exact ⟨none, 0, by rw [h0], fun j hj => by omega⟩
  · refine ⟨_, _, rfl, fun j hj => ⟨g, 0, rfl, (h.ge rfl).2, ?_⟩⟩
    have := World.ownsRow.cells h rfl j (.int .i64 l[j]) (by simp [hj])
    rw [Go.WideShapes.add_plain] at this
    exact this
theorem infoInt : (Try.prog.info? 3).map (fun i => (i.zero, i.size, i.bytes)) = some (some (.int .i64 0), 1, 8) := by kernel_rfl
theorem app_ints {ops : Array Oper} {rest : List Oper} {o : Oper} {a : Act} {Q : Exit → Act → World → Prop} {w : World} (hgd : o.guard = none) (s x : Operand)
    (ho : o.op = .call { callee := .builtin .append, args := #[s, x], argTypes := #[60, 60] })
    (base : Nat) (v : Value) (l : List Int) (z : Int) (hs : a.eval s = v) (g c : Nat) (hx : a.eval x = .slice (some ⟨g, 0, none⟩) 1 c) (hown : OwnI base w v l)
    (hz : w.cell? ⟨g, 0, none⟩ = some (.int .i64 z)) (hlen : l.length ≤ 1000000) (hbase : base ≤ w.heap.size)
    (h : ∀ v' w', OwnI base w' v' (l ++ [z]) → Below base w w' → wpList Try.prog ops Q rest (a.put o.dst v') w') : wpList Try.prog ops Q (o :: rest) a w := by
  obtain ⟨i0, hi, hz0, hz1, hz2⟩ := info_parts infoInt
  refine wpList_append_own w hgd s x 60 ho base 3 i0 (.int .i64 0) 1 8 Try.underlying60 hi hz0 hz1 hz2 rfl (by decide) v l.length (l.map fun z => .int .i64 z) hs hown ⟨g, 0, none⟩ 1 c [.int .i64 z] hx rfl ?_ ?_ (by unfold maxLen; omega) (by omega) hbase ?_
  · intro j u hj
    rw [Go.WideShapes.add_plain, Nat.zero_add]
    rcases j with _ | j
    · simp at hj; subst hj; exact hz
    · simp at hj
  · intro u hu
    simp at hu
    subst hu; rfl
  · intro v' w' k1 k2 _
    refine h v' w' (by unfold OwnI; rw [List.length_append, List.map_append]; exact k1) ?_
    exact (Below.refl base w).grown k2 hbase fun k hk => (hown.ge hk).1
/-- A row of fields of one's own. -/
def OwnF (base : Nat) (w : World) (v : Value) (L : List Fd) : Prop := w.ownsRow base 59 3 v L.length (cells3 L)
theorem OwnF.nil (base : Nat) (w : World) : OwnF base w (.slice none 0 0) [] := World.ownsRow_nil w _ _ _
theorem OwnF.later {w w' : World} {base : Nat} {v : Value} {L : List Fd} (h : OwnF base w v L) (hb : Below w.heap.size w w') : OwnF base w' v L := Rf.own_later h hb
theorem app_fds {ops : Array Oper} {rest : List Oper} {o : Oper} {a : Act} {Q : Exit → Act → World → Prop} {w : World} (hgd : o.guard = none) (s x : Operand)
    (ho : o.op = .call { callee := .builtin .append, args := #[s, x], argTypes := #[22, 22] })
    (base : Nat) (v : Value) (L : List Fd) (f : Fd) (hs : a.eval s = v) (g c : Nat) (hx : a.eval x = .slice (some ⟨g, 0, none⟩) 1 c) (hown : OwnF base w v L)
    (hf : FdAt w g f) (hlen : L.length ≤ 1000000) (hbase : base ≤ w.heap.size)
    (h : ∀ v' w', OwnF base w' v' (L ++ [f]) → Below base w w' → wpList Try.prog ops Q rest (a.put o.dst v') w') : wpList Try.prog ops Q (o :: rest) a w := by
  obtain ⟨i0, hi, hz0, hz1, hz2⟩ := info_parts infoField
  obtain ⟨h0, h1, h2, h3⟩ := hf
  refine wpList_append_own w hgd s x 22 ho base 59 i0 (.agg #[.int .u64 0, .int .i64 0, .string ⟨#[]⟩]) 3 32 Try.underlying22 hi hz0 hz1 hz2 rfl (by decide) v L.length (cells3 L) hs hown ⟨g, 0, none⟩ 1 c [.int .u64 f.n, .int .i64 f.i, .string f.s] hx rfl ?_ ?_ (by unfold maxLen; omega) (by omega) hbase ?_
  · intro j u hj
    rw [Go.WideShapes.add_plain, Nat.zero_add]
    rcases j with _ | _ | _ | j
    · simp at hj; subst hj; exact h0
    · simp at hj; subst hj; exact h1
    · simp at hj; subst hj; exact h2
    · simp at hj
  · simp [Value.oneCell']
  · intro v' w' k1 k2 _
    refine h v' w' (by unfold OwnF; rw [List.length_append, cells3_snoc]; exact k1) ?_
    exact (Below.refl base w).grown k2 hbase fun k hk => (World.ownsRow.lt hown k hk).1
theorem below_under {a w w' : World} {B : Nat} (h : Below B a w) (k : Below B w w') : Below B a w' := h.trans k
set_option maxRecDepth 100000 in
set_option maxHeartbeats 1600000 in
theorem pickb_c (w : World) (g cg : Nat) (l : List UInt8) (a : Option Addr) (cap : Nat) (zs : List Int) (hr : RowAt w g (l.map bv)) (hg : g < w.heap.size) (hz : Ints w a zs) (hin : ∀ z ∈ zs, 0 ≤ z ∧ z < (l.length : Int)) (hl : zs.length ≤ 1000) :
    Calls Try.prog 44 #[.slice (some ⟨g, 0, none⟩) l.length cg, .slice a zs.length cap] w fun e w' => ∃ v', e = .returned v' ∧ OwnB w.heap.size w' v' (pickL 0 l zs) ∧ Below w.heap.size w w' := by
  have HR := Lib.hid hr
  have HZ := Lib.hid hz
  have HIN := Lib.hid hin
  clear hr hz hin
  go_enter Try.func44, Try.ntmps44
  go_wp2_with fail
  go_loopw [5, 7, 10] (fun s5 _ i wr => ∃ k : Nat, k ≤ zs.length ∧ i = .int .i64 k ∧ OwnB w.heap.size wr s5 (pickL 0 l (zs.take k)) ∧ Below w.heap.size w wr) (fun _ _ i _ => zs.length - (intOf i).toNat)
  case atStart => exact ⟨0, by omega, rfl, OwnB.nil _ _, Below.refl _ _⟩
  case round =>
    obtain ⟨k, hk, rfl, hO, hB⟩ := hrel
    have HO := Lib.hid hO
    have HB := Lib.hid hB
    clear hO hB
    by_cases hlt : k < zs.length
    · obtain ⟨b, off, rfl, hb, c⟩ := HZ.out.later HB.out k hlt
      have hz9 := HIN.out _ (List.getElem_mem hlt)
      have HNX := Lib.hid (pick_next 0 l zs k hlt)
      obtain ⟨z, hz⟩ : ∃ z, zs[k] = z := ⟨_, rfl⟩
      rw [hz] at c hz9 HNX
      obtain ⟨m, rfl⟩ : ∃ m : Nat, z = (m : Int) := ⟨z.toNat, by omega⟩
      have hml : m < l.length := by omega
      have c2 : wr.cell? ⟨g, m, none⟩ = some (.int .u8 (l[m].toNat : Int)) := by
        have := HR.out.cell m (by simpa using hml)
        rw [HB.out.cell (by simpa using hg), this]
        simp [bv]
      have e3 : l.getD ((m : Int)).toNat 0 = l[m] := by simp [hml]
      rw [e3] at HNX
      obtain ⟨x, hx⟩ : ∃ x, l[m] = x := ⟨_, rfl⟩
      rw [hx] at c2 HNX
      have q0 : (0 : Int) ≤ (k : Int) := by omega
      have q1 : (k : Int) < (zs.length : Int) := by omega
      have q2 : (0 : Int) ≤ (m : Int) := by omega
      have q3 : (m : Int) < (l.length : Int) := by omega
      have HO2 := Lib.hid (HO.out.later ((Below.refl _ wr).alloc (Nat.le_refl _) (.cells #[.int .u8 (x.toNat : Int)] 5)))
      have hbr : w.heap.size ≤ wr.heap.size := HB.out.size
      have HPL := Lib.hid (show (pickL 0 l (zs.take k)).length ≤ 1000 by unfold pickL; rw [List.length_map, List.length_take]; omega)
      clear hz hx hz9 e3
      go_wp2_with (at_builtin; refine app_bytes rfl _ _ rfl w.heap.size _ _ [x] rfl wr.heap.size 0 1 1 rfl HO2.out rfl (one_new wr x _ rfl _) (by have := HPL.out; omega) (by simp; omega) ?_)
      intro v8 w8 h8 b8
      have H8 := Lib.hid h8
      have B8 := Lib.hid (below_under (HB.out.alloc hbr _) b8)
      clear h8 b8
      go_wp2_with fail
      exact ⟨⟨k + 1, by omega, by simp, by rw [HNX.out]; exact H8.out, B8.out⟩, by simp [intOf]; omega⟩
    · obtain rfl : k = zs.length := by omega
      have HF := HO.out
      rw [List.take_length] at HF
      have H9 := Lib.hid HF
      clear HF
      go_wp2_with fail
      go_ret
      exact ⟨_, rfl, H9.out, HB.out⟩
set_option maxRecDepth 100000 in
set_option maxHeartbeats 1600000 in
theorem pickf_c (w : World) (ag : Option Addr) (cg : Nat) (L : List Fd) (a : Option Addr) (cap : Nat) (zs : List Int) (hr : Fds w ag L) (hz : Ints w a zs) (hin : ∀ z ∈ zs, 0 ≤ z ∧ z < (L.length : Int)) (hl : zs.length ≤ 1000) (d : Fd) :
    Calls Try.prog 50 #[.slice ag L.length cg, .slice a zs.length cap] w fun e w' => ∃ a' cap', e = .returned (.slice a' (pickL d L zs).length cap') ∧ Fds w' a' (pickL d L zs) ∧ Below w.heap.size w w' := by
  have HR := Lib.hid hr
  have HZ := Lib.hid hz
  have HIN := Lib.hid hin
  clear hr hz hin
  go_enter Try.func50, Try.ntmps50
  go_wp2_with fail
  go_loopw [5, 7, 10] (fun s5 _ i wr => ∃ k : Nat, k ≤ zs.length ∧ i = .int .i64 k ∧ OwnF w.heap.size wr s5 (pickL d L (zs.take k)) ∧ Below w.heap.size w wr) (fun _ _ i _ => zs.length - (intOf i).toNat)
  case atStart => exact ⟨0, by omega, rfl, OwnF.nil _ _, Below.refl _ _⟩
  case round =>
    obtain ⟨k, hk, rfl, hO, hB⟩ := hrel
    have HO := Lib.hid hO
    have HB := Lib.hid hB
    clear hO hB
    by_cases hlt : k < zs.length
    · obtain ⟨b, off, rfl, hb, c⟩ := HZ.out.later HB.out k hlt
      have hz9 := HIN.out _ (List.getElem_mem hlt)
      have HNX := Lib.hid (pick_next d L zs k hlt)
      obtain ⟨z, hz⟩ : ∃ z, zs[k] = z := ⟨_, rfl⟩
      rw [hz] at c hz9 HNX
      obtain ⟨m, rfl⟩ : ∃ m : Nat, z = (m : Int) := ⟨z.toNat, by omega⟩
      have hml : m < L.length := by omega
      obtain ⟨b2, off2, rfl, hb2, c1, c2, c3⟩ := HR.out.later HB.out m hml
      have e3 : L.getD ((m : Int)).toNat d = L[m] := by simp [hml]
      rw [e3] at HNX
      obtain ⟨x, hx⟩ : ∃ x, L[m] = x := ⟨_, rfl⟩
      rw [hx] at c1 c2 c3 HNX
      have q0 : (0 : Int) ≤ (k : Int) := by omega
      have q1 : (k : Int) < (zs.length : Int) := by omega
      have q2 : (0 : Int) ≤ (m : Int) := by omega
      have q3 : (m : Int) < (L.length : Int) := by omega
      have HO2 := Lib.hid (OwnF.later HO.out ((Below.refl _ wr).alloc (Nat.le_refl _) (.cells #[.int .u64 x.n, .int .i64 x.i, .string x.s] 59)))
      have HFD := Lib.hid (fd_new wr x 59)
      have hbr : w.heap.size ≤ wr.heap.size := HB.out.size
      have HPL := Lib.hid (show (pickL d L (zs.take k)).length ≤ 1000 by unfold pickL; rw [List.length_map, List.length_take]; omega)
      clear hz hx hz9 e3
      go_wp2_with (at_builtin; refine app_fds rfl _ _ rfl w.heap.size _ _ x rfl wr.heap.size 1 rfl HO2.out HFD.out (by have := HPL.out; omega) (by simp; omega) ?_)
      intro v8 w8 h8 b8
      have H8 := Lib.hid h8
      have B8 := Lib.hid (below_under (HB.out.alloc hbr _) b8)
      clear h8 b8
      go_wp2_with fail
      exact ⟨⟨k + 1, by omega, by simp, by rw [HNX.out]; exact H8.out, B8.out⟩, by simp [intOf]; omega⟩
    · obtain rfl : k = zs.length := by omega
      have HF := HO.out
      rw [List.take_length] at HF
      obtain ⟨a', cap', rfl, hfd⟩ := own_fds HF
      have H9 := Lib.hid hfd
      clear HF hfd HO
      go_wp2_with fail
      go_ret
      exact ⟨_, _, rfl, H9.out, HB.out⟩
end Go.Proofs.Ytialjglgkfcdmaa.Or
