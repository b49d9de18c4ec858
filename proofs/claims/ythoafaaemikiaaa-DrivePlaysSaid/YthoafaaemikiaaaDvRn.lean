/- Package drive: the reference's New. -/
import Derived.Test.YthoafaaemikiaaaDvRc
namespace Go.Proofs.Ythoafaaemikiaaa.Dv
open Go Go.RowKit Rf
section
variable {w w' : World} {g : Nat} {nv sv av ov : Value} {N D : List Sec} {A : List Nat} {O : List Sec} {F : Option Nat}
theorem RDv.appN (h : RDv w g nv sv av ov N D A O F) (o : Obj) (s : Sec) {nv' : Value} (hown : w'.ownsRow 0 TStr 1 nv' (N.length + 1) (strs N ++ [.string (bs s)])) (hgrow : (w.alloc o).grownBy w' nv.ownBlock) (hat : nv'.ownBlock = nv.ownBlock ∨ nv'.ownBlock = some (w.alloc o).heap.size) : RDv (w'.setCell ⟨g, 0, none⟩ nv') g nv' sv av ov (N ++ [s]) D A O F ∧ Keeps (fun j => j = g ∨ nv.ownBlock = some j) w (w'.setCell ⟨g, 0, none⟩ nv') := by
  have hl : (N ++ [s]).length = N.length + 1 := by simp
  have e : strs (N ++ [s]) = strs N ++ [.string (bs s)] := by simp [strs]
  have b : Rw w' g TRD [nv, sv, av, ov, .int .i64 (fcell F)] := (h.blk.later ((Below.refl _ w).alloc (Nat.le_refl _) o)).of (hgrow.block g (by have := h.blk.lt; simp; omega) fun e => h.gn e.symm)
  have o' : w'.ownsRow 0 TStr 1 ov O.length (strs O) := (h.op.alloc o).kept hgrow h.no.symm.ne
  have s' : w'.ownsRow 0 TStr 1 sv D.length (strs D) := (h.sure.alloc o).kept hgrow h.ns.symm.ne
  have a' : w'.ownsRow 0 TInt 1 av A.length (nats A) := (h.at_.alloc o).kept hgrow h.an.ne
  have n' : w'.ownsRow 0 TStr 1 nv' (N ++ [s]).length (strs (N ++ [s])) := by rw [hl, e]; exact hown
  have K : Keeps (fun j => j = g) w' (w'.setCell ⟨g, 0, none⟩ nv') := (Keeps.refl _ w').setCell g 0 nv' (.inl rfl)
  refine ⟨⟨b.setCell 0 nv', own_keeps n' K fun j hj e => own_type n' b (by decide) (by rw [hj, e]), own_keeps s' K fun j hj e => own_type s' b (by decide) (by rw [hj, e]), own_keeps a' K fun j hj e => own_type a' b (by decide) (by rw [hj, e]), own_keeps o' K fun j hj e => own_type o' b (by decide) (by rw [hj, e]), fun j h2 h1 => ?_, fun j h2 h1 => ?_, h.so⟩, ?_⟩
  · rcases hat with h3 | h3
    · exact h.ns j (h3 ▸ h2) h1
    · have := (h.sure.lt j h1).2; rw [h3] at h2; simp at h2; omega
  · rcases hat with h3 | h3
    · exact h.no j (h3 ▸ h2) h1
    · have := (h.op.lt j h1).2; rw [h3] at h2; simp at h2; omega
  · exact (((Keeps.refl _ w).alloc o).grown hgrow fun k hk => .inl (.inr hk)).setCell g 0 nv' (.inl (.inl rfl))
theorem RDv.appS (h : RDv w g nv sv av ov N D A O F) (o : Obj) (s : Sec) {sv' : Value} (hown : w'.ownsRow 0 TStr 1 sv' (D.length + 1) (strs D ++ [.string (bs s)])) (hgrow : (w.alloc o).grownBy w' sv.ownBlock) (hat : sv'.ownBlock = sv.ownBlock ∨ sv'.ownBlock = some (w.alloc o).heap.size) : RDv (w'.setCell ⟨g, 1, none⟩ sv') g nv sv' av ov N (D ++ [s]) A O F ∧ Keeps (fun j => j = g ∨ sv.ownBlock = some j) w (w'.setCell ⟨g, 1, none⟩ sv') := by
  have hl : (D ++ [s]).length = D.length + 1 := by simp
  have e : strs (D ++ [s]) = strs D ++ [.string (bs s)] := by simp [strs]
  have b : Rw w' g TRD [nv, sv, av, ov, .int .i64 (fcell F)] := (h.blk.later ((Below.refl _ w).alloc (Nat.le_refl _) o)).of (hgrow.block g (by have := h.blk.lt; simp; omega) fun e => h.gs e.symm)
  have o' : w'.ownsRow 0 TStr 1 ov O.length (strs O) := (h.op.alloc o).kept hgrow h.so.symm.ne
  have n' : w'.ownsRow 0 TStr 1 nv N.length (strs N) := (h.now.alloc o).kept hgrow h.ns.ne
  have a' : w'.ownsRow 0 TInt 1 av A.length (nats A) := (h.at_.alloc o).kept hgrow h.as.ne
  have s' : w'.ownsRow 0 TStr 1 sv' (D ++ [s]).length (strs (D ++ [s])) := by rw [hl, e]; exact hown
  have K : Keeps (fun j => j = g) w' (w'.setCell ⟨g, 1, none⟩ sv') := (Keeps.refl _ w').setCell g 1 sv' (.inl rfl)
  refine ⟨⟨b.setCell 1 sv', own_keeps n' K fun j hj e => own_type n' b (by decide) (by rw [hj, e]), own_keeps s' K fun j hj e => own_type s' b (by decide) (by rw [hj, e]), own_keeps a' K fun j hj e => own_type a' b (by decide) (by rw [hj, e]), own_keeps o' K fun j hj e => own_type o' b (by decide) (by rw [hj, e]), fun j h1 h2 => ?_, h.no, fun j h2 h1 => ?_⟩, ?_⟩
  · rcases hat with h3 | h3
    · exact h.ns j h1 (h3 ▸ h2)
    · have := (h.now.lt j h1).2; rw [h3] at h2; simp at h2; omega
  · rcases hat with h3 | h3
    · exact h.so j (h3 ▸ h2) h1
    · have := (h.op.lt j h1).2; rw [h3] at h2; simp at h2; omega
  · exact (((Keeps.refl _ w).alloc o).grown hgrow fun k hk => .inl (.inr hk)).setCell g 1 sv' (.inl (.inl rfl))
end
theorem bs_zs : zb 64 = bs zs := rfl
theorem rep_snoc (j : Nat) : List.replicate j zs ++ [zs] = List.replicate (j + 1) zs := by rw [List.replicate_succ']
theorem rnew_no (n : Int) (h : n < 8 ∨ 4096 < n) (w : World) : Calls Try.prog 8 #[.int .i64 n] w fun e w' => e = .returned (.tuple #[.pointer none, .int .i64 2]) ∧ w = w' := by
  by_cases h1 : n < 8
  · go_enter Try.func8, Try.ntmps8
    go_wp2_with fail
    go_ret2
    exact ⟨rfl, rfl⟩
  · have h2 : 4096 < n := by omega
    go_enter Try.func8, Try.ntmps8
    go_wp2_with fail
    go_ret2
    exact ⟨rfl, rfl⟩
def RNew (n : Nat) (w : World) (e : Ending) (w' : World) : Prop := ∃ g, e = .returned (.tuple #[.pointer (some ⟨g, 0, none⟩), .int .i64 0]) ∧ Rs (fun j => w.heap.size ≤ j) w' g (Dr.new n) ∧ Below w.heap.size w w'
set_option maxRecDepth 100000 in
set_option maxHeartbeats 4000000 in
theorem rnew_c (n : Nat) (h1 : 8 ≤ n) (h2 : n ≤ 4096) (w : World) : Calls Try.prog 8 #[.int .i64 (n : Int)] w (RNew n w) := by
  have y1 : ¬ ((n : Int) < 8) := by omega
  have y2 : ¬ ((4096 : Int) < (n : Int)) := by omega
  obtain ⟨i0, hi, hz0, hz1, hz2⟩ := info_parts infoStr
  have R0 : RDv (w.alloc (.cells #[.slice none 0 0, .slice none 0 0, .slice none 0 0, .slice none 0 0, .int .i64 (-1)] TRD)) w.heap.size (.slice none 0 0) (.slice none 0 0) (.slice none 0 0) (.slice none 0 0) [] [] [] [] none :=
    ⟨Rw.new w [.slice none 0 0, .slice none 0 0, .slice none 0 0, .slice none 0 0, .int .i64 (-1)] TRD, World.ownsRow_nil _ _ _ _, World.ownsRow_nil _ _ _ _, World.ownsRow_nil _ _ _ _, World.ownsRow_nil _ _ _ _, (fun _ _ h => nomatch h), (fun _ _ h => nomatch h), (fun _ _ h => nomatch h)⟩
  have R0 := Lib.hid R0
  have B0 := Lib.hid ((Below.refl w.heap.size w).alloc (Nat.le_refl _) (.cells #[.slice none 0 0, .slice none 0 0, .slice none 0 0, .slice none 0 0, .int .i64 (-1)] TRD))
  go_enter Try.func8, Try.ntmps8
  go_wp2_with fail
  obtain ⟨g, hg⟩ : ∃ g, w.heap.size = g := ⟨_, rfl⟩
  have HG := Lib.hid hg
  rw [hg] at R0 B0 ⊢
  generalize w.alloc (.cells #[.slice none 0 0, .slice none 0 0, .slice none 0 0, .slice none 0 0, .int .i64 (-1)] _) = W at R0 B0 ⊢
  refine (zero_c _).mono ?_
  rintro e w' ⟨rfl, rfl⟩
  rw [bs_zs]
  clear hg
  go_wp2_with fail
  go_loopw [6] (fun i wr => ∃ (j : Nat) (nv sv : Value), j ≤ n ∧ i = .int .i64 j ∧ RDv wr g nv sv (.slice none 0 0) (.slice none 0 0) (List.replicate j zs) (List.replicate j zs) [] [] none ∧ Below g w wr ∧ (∀ k, Bq g nv sv (.slice none 0 0) (.slice none 0 0) k → g ≤ k)) (fun i _ => n - (intOf i).toNat)
  case atStart => exact ⟨0, _, _, by omega, rfl, R0.out, B0.out, fun k hk => by rcases hk with rfl | hk | hk | hk | hk <;> first | exact Nat.le_refl _ | cases hk⟩
  case round =>
    obtain ⟨j, nv, sv, hj, rfl, hA, hb, hq⟩ := hrel
    have A1 := Lib.hid hA
    have B1 := Lib.hid hb
    have Q1 := Lib.hid hq
    clear hA hb hq R0 B0
    by_cases hlt : j < n
    · have hju : (j : Int) < (n : Int) := by omega
      obtain ⟨na, nc, rfl⟩ := own_sliceN A1.out.now List.length_replicate
      obtain ⟨sa, sc, rfl⟩ := own_sliceN A1.out.sure List.length_replicate
      have c0 : wr.cell? ⟨g, 0, none⟩ = some (.slice na j nc) := A1.out.blk.cell 0
      have OW := Lib.hid (show wr.ownsRow 0 TStr 1 (.slice na j nc) j (strs (List.replicate j zs)) by have := A1.out.now; rwa [List.length_replicate] at this)
      go_wp2_with (at_builtin; refine wpList_append_own_at _ rfl _ _ 43 rfl 0 TStr i0 (.string ⟨#[]⟩) 1 16 Try.underlying43 hi hz0 hz1 hz2 rfl (by decide) _ _ _ rfl (OW.out.alloc _) ⟨wr.heap.size, 0, none⟩ 1 1 [.string (bs zs)] rfl rfl (one_new' _ _ _) (by simp [Value.oneCell']) (by unfold maxLen; omega) (by omega) (by simp) ?_)
      intro nv' w3 hown hgrow hnil hat
      obtain ⟨na', nc', rfl⟩ := own_slice hown
      have X3 := A1.out.appN _ zs (by rw [List.length_replicate]; exact hown) hgrow (by simpa using hat)
      have gl := A1.out.blk.lt
      have f2' : w3.frozen? ⟨g, 0, none⟩ = false := by
        rw [World.frozen?_of_block (hgrow.block g (by simp; omega) (fun e => A1.out.gn e.symm))]; exact (A1.out.blk.later ((Below.refl _ wr).alloc (Nat.le_refl _) _)).frozen 0
      obtain ⟨y2', c2'⟩ : ∃ y, w3.cell? ⟨g, 0, none⟩ = some y := ⟨_, by
        rw [World.cell?_of_block (hgrow.block g (by simp; omega) (fun e => A1.out.gn e.symm)), World.cell?_alloc_past _ _ _ gl]; exact c0⟩
      have B3 := Lib.hid (B1.out.trans (X3.2.below (lo := g) (fun k hk => Q1.out k (hk.imp id .inl)) (Nat.le_of_lt gl)))
      have A3 := Lib.hid X3.1
      have Q3 : Hid (∀ k, Bq g (.slice na' (j + 1) nc') (.slice sa j sc) (.slice none 0 0) (.slice none 0 0) k → g ≤ k) := fun k hk => by
        rcases hk with hk | hk | hk | hk | hk
        · exact Q1.out k (.inl hk)
        · rcases hat with h | h
          · exact Q1.out k (.inr (.inl (h ▸ hk)))
          · rw [h] at hk; simp at hk; omega
        · exact Q1.out k (.inr (.inr (.inl hk)))
        · cases hk
        · cases hk
      clear X3 A1 B1 Q1 OW hown hgrow hnil hat c0 gl
      go_upto_region 9 with (fail)
      clear c2' f2'
      generalize w3.setCell ⟨g, 0, none⟩ (.slice na' (j + 1) nc') = w4 at A3 B3 ⊢
      have c1 : w4.cell? ⟨g, 1, none⟩ = some (.slice sa j sc) := A3.out.blk.cell 1
      have OS := Lib.hid (show w4.ownsRow 0 TStr 1 (.slice sa j sc) j (strs (List.replicate j zs)) by have := A3.out.sure; rwa [List.length_replicate] at this)
      go_wp2_with (at_builtin; refine wpList_append_own_at _ rfl _ _ 43 rfl 0 TStr i0 (.string ⟨#[]⟩) 1 16 Try.underlying43 hi hz0 hz1 hz2 rfl (by decide) _ _ _ rfl (OS.out.alloc _) ⟨w4.heap.size, 0, none⟩ 1 1 [.string (bs zs)] rfl rfl (one_new' _ _ _) (by simp [Value.oneCell']) (by unfold maxLen; omega) (by omega) (by simp) ?_)
      intro sv' w5 hown hgrow hnil hat
      obtain ⟨sa', sc', rfl⟩ := own_slice hown
      have X5 := A3.out.appS _ zs (by rw [List.length_replicate]; exact hown) hgrow (by simpa using hat)
      have gl := A3.out.blk.lt
      have f3' : w5.frozen? ⟨g, 1, none⟩ = false := by
        rw [World.frozen?_of_block (hgrow.block g (by simp; omega) (fun e => A3.out.gs e.symm))]; exact (A3.out.blk.later ((Below.refl _ w4).alloc (Nat.le_refl _) _)).frozen 1
      obtain ⟨y3', c3'⟩ : ∃ y, w5.cell? ⟨g, 1, none⟩ = some y := ⟨_, by
        rw [World.cell?_of_block (hgrow.block g (by simp; omega) (fun e => A3.out.gs e.symm)), World.cell?_alloc_past _ _ _ gl]; exact c1⟩
      have B5 := Lib.hid (B3.out.trans (X5.2.below (lo := g) (fun k hk => Q3.out k (hk.imp id fun h => .inr (.inl h))) (Nat.le_of_lt gl)))
      have A5 := Lib.hid X5.1
      have Q5 : Hid (∀ k, Bq g (.slice na' (j + 1) nc') (.slice sa' (j + 1) sc') (.slice none 0 0) (.slice none 0 0) k → g ≤ k) := fun k hk => by
        rcases hk with hk | hk | hk | hk | hk
        · exact Q3.out k (.inl hk)
        · exact Q3.out k (.inr (.inl hk))
        · rcases hat with h | h
          · exact Q3.out k (.inr (.inr (.inl (h ▸ hk))))
          · rw [h] at hk; simp at hk; omega
        · cases hk
        · cases hk
      clear X5 A3 B3 Q3 OS hown hgrow hnil hat c1 gl
      go_wp2_with fail
      rw [rep_snoc] at A5
      exact ⟨⟨j + 1, _, _, by omega, by go_num, A5.out, B5.out, Q5.out⟩, by simp [intOf]; omega⟩
    · obtain rfl : n = j := by omega
      go_wp2_with fail
      go_ret2
      refine ⟨g, rfl, ⟨nv, sv, .slice none 0 0, .slice none 0 0, A1.out, fun k hk => ?_⟩, ?_⟩
      · show w.heap.size ≤ k; rw [HG.out]; exact Q1.out k hk
      · rw [HG.out]; exact B1.out
end Go.Proofs.Ythoafaaemikiaaa.Dv
