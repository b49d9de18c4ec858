/- Package row: one more sheaf noted. -/
import Derived.Test.YtjlncjabiofklaaDoorRkAt
namespace Go.Proofs.YtjlncjabiofklaaDoor.Rk
open Go Go.RowKit Dv Rf Shf
open Tal (Strs bas)
def Rm.took (R : Rm) (n : Nat) (t : List UInt8) (k : Nat) : Rm := ⟨R.f, R.n, R.S.took n t k, R.top, R.down⟩
/-- The row's texts, one more. -/
theorem At.app {w w1 : World} {r g : Nat} {tv v' : Value} {R : Rm} {o : Obj} {t : List UInt8} (first : Nat) (hb : Rw w r TR (Rm.cells ⟨R.f, R.n, ⟨R.S.T, first, R.S.last, R.S.e⟩, R.top, R.down⟩ g tv)) (ht : w.ownsRow 0 TStr 1 tv R.S.T.length (R.S.T.map sv))
    (hown : w1.ownsRow 0 TStr 1 v' (R.S.T.length + 1) (R.S.T.map sv ++ [sv t])) (hgrow : (w.alloc o).grownBy w1 tv.ownBlock) :
    Rw w1 r TR (Rm.cells ⟨R.f, R.n, ⟨R.S.T, first, R.S.last, R.S.e⟩, R.top, R.down⟩ g tv) ∧ (∀ n k, first = (R.S.took n t k).first → At ((((w1.setCell ⟨r, 3, none⟩ v').setCell ⟨r, 5, none⟩ (.int .u64 (n : Int))).setCell ⟨r, 7, none⟩ (.int .i64 ((R.S.e : Int) + (k : Int))))) r g v' (R.took n t k)) ∧
    ∀ n k, Keeps (Bs r tv) w ((((w1.setCell ⟨r, 3, none⟩ v').setCell ⟨r, 5, none⟩ (.int .u64 (n : Int))).setCell ⟨r, 7, none⟩ (.int .i64 ((R.S.e : Int) + (k : Int))))) := by
  have hne := own_type ht hb (by decide)
  have hb1 : Rw w1 r TR (Rm.cells ⟨R.f, R.n, ⟨R.S.T, first, R.S.last, R.S.e⟩, R.top, R.down⟩ g tv) := (hb.later ((Below.refl _ w).alloc (Nat.le_refl _) o)).of (hgrow.block r (by have := hb.lt; simp; omega) fun e => hne e.symm)
  refine ⟨hb1, fun n k hf => ⟨?_, ?_⟩, fun n k => ?_⟩
  · have := ((hb1.setCell 3 v').setCell 5 (.int .u64 (n : Int))).setCell 7 (.int .i64 ((R.S.e : Int) + (k : Int)))
    have e : ((((Rm.cells ⟨R.f, R.n, ⟨R.S.T, first, R.S.last, R.S.e⟩, R.top, R.down⟩ g tv).set 3 v').set 5 (.int .u64 (n : Int))).set 7 (.int .i64 ((R.S.e : Int) + (k : Int)))) = (R.took n t k).cells g v' := by
      subst hf
      simp [Rm.cells, Rm.took, Ld.took]
    rwa [e] at this
  · have hne2 := own_type hown hb1 (by decide)
    have e1 : (R.took n t k).S.T.length = R.S.T.length + 1 := by simp [Rm.took, Ld.took]
    have e2 : (R.took n t k).S.T.map sv = R.S.T.map sv ++ [sv t] := by simp [Rm.took, Ld.took]
    rw [e1, e2]
    have k3 : Keeps (fun j => j = r) w1 ((((w1.setCell ⟨r, 3, none⟩ v').setCell ⟨r, 5, none⟩ (.int .u64 (n : Int))).setCell ⟨r, 7, none⟩ (.int .i64 ((R.S.e : Int) + (k : Int))))) := (((Keeps.refl (fun j => j = r) w1).setCell r 3 _ (.inl rfl)).setCell r 5 _ (.inl rfl)).setCell r 7 _ (.inl rfl)
    exact own_keeps hown k3 fun j hj e => hne2 (by rw [hj, e])
  · have k1 : Keeps (Bs r tv) w w1 := ((Keeps.refl _ w).alloc o).grown hgrow fun j hj => .inl (.inr hj)
    exact ((k1.setCell r 3 _ (.inl (.inl rfl))).setCell r 5 _ (.inl (.inl rfl))).setCell r 7 _ (.inl (.inl rfl))
theorem infoStr : (Tryd.prog.info? TStr).map (fun i => (i.zero, i.size, i.bytes)) = some (some (.string ⟨#[]⟩), 1, 16) := by kernel_rfl
theorem one_new' (W : World) (a : Value) (t : TypeId) : ∀ (j : Nat) (u : Value), [a][j]? = some u → (W.alloc (.cells #[a] t)).cell? (Addr.add ⟨W.heap.size, 0, none⟩ j) = some u := one_new W a t
set_option maxRecDepth 100000 in
set_option maxHeartbeats 1600000 in
theorem took_c (r g : Nat) (tv : Value) (R : Rm) (n k : Nat) (t : ByteArray) (w : World) (h : At w r g tv R) (hT : R.S.T.length ≤ 100000) (he : R.S.e + k ≤ 1000000) : Calls Tryd.prog 47 #[.pointer (some ⟨r, 0, none⟩), .int .u64 (n : Int), .string t, .int .i64 (k : Int)] w fun e w' =>
    e = .returned (.tuple #[]) ∧ Left r g tv (R.took n t.data.toList k) w w' := by
  obtain ⟨i0, hi, hz0, hz1, hz2⟩ := info_parts infoStr
  have q1 : (R.S.e : Int) + (k : Int) ≤ 1000000 := by omega
  have q2 : (0 : Int) ≤ (R.S.e : Int) + (k : Int) := by omega
  obtain ⟨a, cap, rfl⟩ := own_slice h.t
  by_cases h0 : R.S.T.length = 0
  · have hz : ((R.S.T.length : Int) == 0) = true := beq_iff_eq.2 (by omega)
    have HF := Lib.hid (show n = (R.S.took n t.data.toList k).first by unfold Ld.took; rw [if_pos h0])
    have hb0 := h.blk.setCell 4 (.int .u64 (n : Int))
    have ht0 := own_keeps h.t (((Keeps.refl (fun j => j = r) w).setCell r 4 (.int .u64 (n : Int)) (.inl rfl))) (fun j hj e => h.ne (by rw [hj, e]))
    have k0 : Hid (Keeps (Bs r (.slice a R.S.T.length cap)) w (w.setCell ⟨r, 4, none⟩ (.int .u64 (n : Int)))) := (Keeps.refl _ w).setCell r 4 _ (.inl (.inl rfl))
    have HB0 := Lib.hid (show Rw (w.setCell ⟨r, 4, none⟩ (.int .u64 (n : Int))) r TR (Rm.cells ⟨R.f, R.n, ⟨R.S.T, n, R.S.last, R.S.e⟩, R.top, R.down⟩ g (.slice a R.S.T.length cap)) from hb0)
    have HT0 := Lib.hid ht0
    have c3 := h.c3
    have f4 := h.blk.frozen 4
    have c4 := h.c4
    clear h hb0 ht0 h0
    go_enter Tryd.func47, Tryd.ntmps47
    go_upto_region 2 with (fail)
    generalize w.setCell ⟨r, 4, none⟩ (.int .u64 (n : Int)) = wa at HB0 HT0 k0 ⊢
    clear c3 f4 c4
    have c3 : wa.cell? ⟨r, 3, none⟩ = some (.slice a R.S.T.length cap) := HB0.out.cell 3
    go_wp2_with (at_builtin; refine wpList_append_own_at _ rfl _ _ 35 rfl 0 TStr i0 (.string ⟨#[]⟩) 1 16 Tryd.underlying35 hi hz0 hz1 hz2 rfl (by decide) _ _ _ rfl (HT0.out.alloc _) ⟨wa.heap.size, 0, none⟩ 1 1 [.string t] rfl rfl (one_new' _ _ _) (by simp [Value.oneCell']) (by unfold maxLen; omega) (by omega) (by simp) ?_)
    intro v' w1 hown hgrow hnil hat
    obtain ⟨a', c', rfl⟩ := own_slice hown
    have X := At.app (R := R) (t := t.data.toList) n HB0.out HT0.out hown hgrow
    have HX := Lib.hid X.2
    have hbl := X.1
    have HAT := Lib.hid hat
    have HG := Lib.hid hgrow
    clear X hown hgrow hnil hat c3
    have c3 : w1.cell? ⟨r, 3, none⟩ = some (.slice a R.S.T.length cap) := hbl.cell 3
    have c5 : w1.cell? ⟨r, 5, none⟩ = some (.int .u64 (R.S.last : Int)) := hbl.cell 5
    have c7 : w1.cell? ⟨r, 7, none⟩ = some (.int .i64 (R.S.e : Int)) := hbl.cell 7
    have f3 := hbl.frozen 3
    have f5 := hbl.frozen 5
    have f7 := hbl.frozen 7
    clear hbl
    go_wp2_with fail
    go_end0
    refine ⟨rfl, _, HX.out.1 n k HF.out, k0.out.trans (HX.out.2 n k), ?_⟩
    rintro j (rfl | hj)
    · exact .inl (.inl rfl)
    · rcases HAT.out with h | h
      · exact .inl (.inr (h ▸ hj))
      · rw [h] at hj
        have := k0.out.size
        simp at hj
        right; omega
  · have hz : ((R.S.T.length : Int) == 0) = false := beq_eq_false_iff_ne.2 (by omega)
    have HF := Lib.hid (show R.S.first = (R.S.took n t.data.toList k).first by unfold Ld.took; rw [if_neg h0])
    have k0 : Hid (Keeps (Bs r (.slice a R.S.T.length cap)) w w) := Keeps.refl _ w
    have HB0 := Lib.hid (show Rw w r TR (Rm.cells ⟨R.f, R.n, ⟨R.S.T, R.S.first, R.S.last, R.S.e⟩, R.top, R.down⟩ g (.slice a R.S.T.length cap)) from h.blk)
    have HT0 := Lib.hid h.t
    have c3 := h.c3
    clear h h0
    go_enter Tryd.func47, Tryd.ntmps47
    go_wp2_with (at_builtin; refine wpList_append_own_at _ rfl _ _ 35 rfl 0 TStr i0 (.string ⟨#[]⟩) 1 16 Tryd.underlying35 hi hz0 hz1 hz2 rfl (by decide) _ _ _ rfl (HT0.out.alloc _) ⟨w.heap.size, 0, none⟩ 1 1 [.string t] rfl rfl (one_new' _ _ _) (by simp [Value.oneCell']) (by unfold maxLen; omega) (by omega) (by simp) ?_)
    intro v' w1 hown hgrow hnil hat
    obtain ⟨a', c', rfl⟩ := own_slice hown
    have X := At.app (R := R) (t := t.data.toList) R.S.first HB0.out HT0.out hown hgrow
    have HX := Lib.hid X.2
    have hbl := X.1
    have HAT := Lib.hid hat
    have HG := Lib.hid hgrow
    clear X hown hgrow hnil hat c3
    have c3 : w1.cell? ⟨r, 3, none⟩ = some (.slice a R.S.T.length cap) := hbl.cell 3
    have c5 : w1.cell? ⟨r, 5, none⟩ = some (.int .u64 (R.S.last : Int)) := hbl.cell 5
    have c7 : w1.cell? ⟨r, 7, none⟩ = some (.int .i64 (R.S.e : Int)) := hbl.cell 7
    have f3 := hbl.frozen 3
    have f5 := hbl.frozen 5
    have f7 := hbl.frozen 7
    clear hbl
    go_wp2_with fail
    go_end0
    refine ⟨rfl, _, HX.out.1 n k HF.out, k0.out.trans (HX.out.2 n k), ?_⟩
    rintro j (rfl | hj)
    · exact .inl (.inl rfl)
    · rcases HAT.out with h | h
      · exact .inl (.inr (h ▸ hj))
      · rw [h] at hj
        have := k0.out.size
        simp at hj
        right; omega
end Go.Proofs.YtjlncjabiofklaaDoor.Rk
