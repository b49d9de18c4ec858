/- Package order: what 'fields' yields. -/
import Derived.Test.YtoicnpekbpphjaaOrTakeF
import Derived.Test.YtoicnpekbpphjaaRfColl
import Derived.Shelf.Abstract
import Derived.Shelf.RegionOpen
import Derived.OwnWalkIn
import Derived.TacticsInMore
import Derived.LoopNIn
import Derived.LoopIn
namespace Go.Proofs.Ytoicnpekbpphjaa.Or
open Go.RowKit Go.Shelf Cm Rf
attribute [local go_sem] Oper.semAt_some
theorem mk_fn : ∀ (fn : Fn) (first cap : Array Value) (w : World), (Instr.makeFunc fn first cap).run Try.prog w = .ok (.func fn first cap) w := fun _ _ _ _ => rfl
theorem fields_c (K F : ByteArray) (w : World) :
    Calls Try.prog 30 #[.string K, .string F] w fun e w' => e = .returned (.func (.func 36) #[] #[.pointer (some ⟨w.heap.size + 1, 0, none⟩), .pointer (some ⟨w.heap.size, 0, none⟩)]) ∧ w' = (w.alloc (.cells #[.string K] 9)).alloc (.cells #[.string F] 9) := by
  have hmf := mk_fn
  go_enter Try.func30, Try.ntmps30
  go_wp2_with fail
  go_ret
  exact ⟨rfl, rfl⟩
/-- What the loop's body leaves as it was. -/
def Kp (n b : Nat) (W W' : World) : Prop := ∀ k, k < n ∨ k = b ∨ k = b + 1 → W'.heap[k]? = W.heap[k]?
theorem Kp.cell {n b : Nat} {W W' : World} (h : Kp n b W W') (k o : Nat) (hk : k < n ∨ k = b ∨ k = b + 1) : W'.cell? ⟨k, o, none⟩ = W.cell? ⟨k, o, none⟩ := World.cell?_of_block (w := W) (h k hk)
theorem Kp.frozen {n b : Nat} {W W' : World} (h : Kp n b W W') (k o : Nat) (hk : k < n ∨ k = b ∨ k = b + 1) : W'.frozen? ⟨k, o, none⟩ = W.frozen? ⟨k, o, none⟩ := World.frozen?_of_block (w := W) (h k hk)
/-- The boxes of an iteration, in a state. -/
structure Kx (b : Nat) (K F : ByteArray) (w : World) : Prop where
  c0 : w.cell? ⟨b, 0, none⟩ = some (.string K)
  c1 : w.cell? ⟨b + 1, 0, none⟩ = some (.string F)
  f1 : w.frozen? ⟨b + 1, 0, none⟩ = false
  lt : b + 1 < w.heap.size
theorem Kx.later {b : Nat} {K F : ByteArray} {w w' : World} (h : Kx b K F w) (hb : Below w.heap.size w w') : Kx b K F w' :=
  ⟨(hb.cell (p := ⟨b, 0, none⟩) (show b < w.heap.size by have := h.lt; omega)).trans h.c0, (hb.cell (p := ⟨b + 1, 0, none⟩) h.lt).trans h.c1, (hb.frozen (p := ⟨b + 1, 0, none⟩) h.lt).trans h.f1, Nat.lt_of_lt_of_le h.lt hb.size⟩
theorem Kx.set {b : Nat} {K F : ByteArray} {w : World} (h : Kx b K F w) (R : ByteArray) : Kx b K R (w.setCell ⟨b + 1, 0, none⟩ (.string R)) :=
  ⟨(World.cell?_setCell_other _ _ _ _ (by simp)).trans h.c0, World.cell?_setCell_same _ _ _ h.c1, by rw [World.frozen?_setCell]; exact h.f1, by simpa [World.setCell] using h.lt⟩
theorem Kx.kept {n b : Nat} {K F : ByteArray} {w w' : World} (h : Kx b K F w) (hk : Kp n b w w') : Kx b K F w' := by
  have c1 := (hk.cell (b + 1) 0 (by omega)).trans h.c1
  exact ⟨(hk.cell b 0 (by omega)).trans h.c0, c1, (hk.frozen (b + 1) 0 (by omega)).trans h.f1, World.block_lt_of_cell? w' ⟨b + 1, 0, none⟩ c1⟩
def enc2 (y : Fd × Bool) : Array Value := #[.agg #[.int .u64 y.1.n, .int .i64 y.1.i, .string y.1.s], .bool y.2]
def yes (L : List Fd) : List (Fd × Bool) := L.map fun f => (f, true)
theorem yes_snoc (L : List Fd) (f : Fd) : yes (L ++ [f]) = yes L ++ [(f, true)] := by simp [yes]
def SF (K F : List UInt8) (xs : List (Fd × Bool)) : Prop := (∃ L, takeAll K F = some L ∧ xs = yes L) ∨ (∃ fs z, xs = yes fs ++ [(z, false)])
def OkF (K F : List UInt8) (pre : List (Fd × Bool)) (y : Fd × Bool) : Prop := pre.length ≤ K.length ∧ (y.2 = true ∨ (y.2 = false ∧ takeAll K F = none))
theorem takeAll_some {c b : UInt8} {K B r : List UInt8} {f : Fd} (h : takeF c (b :: B) = some (f, r)) : takeAll (c :: K) (b :: B) = (takeAll K r).map fun L => f :: L := by rw [takeAll, h]
theorem takeAll_none {c b : UInt8} {K B : List UInt8} (h : takeF c (b :: B) = none) : takeAll (c :: K) (b :: B) = none := by rw [takeAll, h]
theorem size_pos_iff (R : ByteArray) : (0 < R.size ∧ R.toList.isEmpty = false ∧ R.data.toList ≠ []) ∨ (R.toList.isEmpty = true ∧ R.data.toList = []) := by
  rcases size_zero R with ⟨h1, h2⟩ | ⟨h1, h2⟩
  · right
    exact ⟨h2, List.length_eq_zero_iff.1 (by simpa using h1)⟩
  · left
    refine ⟨by omega, h2, fun h => h1 ?_⟩
    have : R.data.toList.length = R.size := by simp
    rw [h] at this
    exact this.symm
theorem fd_other {w : World} {b c : Nat} {f : Fd} (h : FdAt w b f) (hne : b ≠ c) (v : Value) : FdAt (w.setCell ⟨c, 0, none⟩ v) b f := by
  obtain ⟨h0, h1, h2, h3⟩ := h
  exact ⟨(World.cell?_setCell_other _ _ _ _ (by intro e; injection e with e; exact hne e.symm)).trans h0, (World.cell?_setCell_other _ _ _ _ (by intro e; injection e with e; exact hne e.symm)).trans h1, (World.cell?_setCell_other _ _ _ _ (by intro e; injection e with e; exact hne e.symm)).trans h2, by simpa [World.setCell] using h3⟩
set_option maxRecDepth 100000 in
set_option maxHeartbeats 4000000 in
theorem fields_yields (K F0 : ByteArray) (n b : Nat) (W0 : World) (_hn2 : n ≤ b) (h0 : Kx b K F0 W0) (hk : kindsB K.data.toList = true) (hK : K.size ≤ 1000) (hF : F0.size ≤ 100000) :
    Rf.Yields Try.prog 36 #[.pointer (some ⟨b + 1, 0, none⟩), .pointer (some ⟨b, 0, none⟩)] enc2 (fun k => k = b + 1) (Kp n b) (SF K.data.toList F0.data.toList) (fun _ => True) (OkF K.data.toList F0.data.toList) W0 := fun l J Jx W hW sJ sJx hY hJ0 => by
  refine callsIn_of_wp Try.func36 rfl trivial ?_ rfl
  simp only [Try.ntmps36, List.size_toArray, List.length_cons, List.length_nil, Nat.reduceAdd, Nat.reduceSub, Array.replicate_succ, Array.replicate_zero, List.push_toArray, List.append_toArray, List.nil_append, List.cons_append]
  have hKW : Kx b K F0 W := h0.later hW
  gi_wp2_with fail
  gi_loopw [4, 5, 6] (fun s4 _ _ wr => ∃ (fs : List Fd) (i : Nat) (R : ByteArray), s4 = .int .i64 (i : Int) ∧ fs.length = i ∧ i ≤ K.size ∧ takeAll K.data.toList F0.data.toList = (takeAll (K.data.toList.drop i) R.data.toList).map (fun L => fs ++ L) ∧ R.size ≤ 100000 ∧ Kx b K R wr ∧ J (yes fs) wr) (fun s4 _ _ _ => K.size - (intOf s4).toNat)
  case atStart => exact ⟨[], 0, F0, rfl, rfl, by omega, by simp, hF, hKW, hJ0⟩
  case round =>
    obtain ⟨fs, i, R, rfl, hfl, hi, hT, hR9, hX, hJs⟩ := hrel
    have HX := Lib.hid hX
    have HT := Lib.hid hT
    obtain ⟨c0, c1, f1, hlt1⟩ := hX
    have hltb : b < wr.heap.size := by omega
    have hmx : Try.prog.follows .mixedOrders = true := by kernel_rfl
    clear hT hKW h0
    rcases size_pos_iff R with ⟨hRp, he, hRn⟩ | ⟨he, hRn⟩
    · have HRN := Lib.hid hRn
      clear hRn
      by_cases hlt : i < K.size
      · have hks : i < K.data.toList.length := by simpa using hlt
        have hd : K.data.toList.drop i = K[i] :: K.data.toList.drop (i + 1) := by rw [List.drop_eq_getElem_cons hks, byte_at K i hlt]
        have hL := kinds_at hk i hks
        rw [byte_at K i hlt] at hL
        have p0 : (0 : Int) ≤ (i : Int) := by omega
        have p1 : (i : Int) < (K.size : Int) := by omega
        have KT := Lib.hid (fun w => takeField_c K[i] R w hL hRp hR9)
        have hA1 := Lib.hid ((Below.refl wr.heap.size wr).alloc (Nat.le_refl _) (.cells #[.int .u64 0, .int .i64 0, .string ⟨#[]⟩] 47))
        have hX1 := HX.out.later ((Below.refl _ wr).alloc (Nat.le_refl _) (.cells #[.int .u64 0, .int .i64 0, .string ⟨#[]⟩] 47))
        have hF1 := fd_new wr ⟨0, 0, ⟨#[]⟩⟩ 47
        have hJ1 := sJ.below _ _ _ hJs ((Below.refl _ wr).alloc (Nat.le_refl _) (.cells #[.int .u64 0, .int .i64 0, .string ⟨#[]⟩] 47))
        have hZ1 : ∀ j, (wr.alloc (.cells #[.int .u64 0, .int .i64 0, .string ⟨#[]⟩] 47)).frozen? ⟨wr.heap.size, j, none⟩ = false := fun j => World.frozen?_alloc_at _ _ _ _ rfl
        gi_wp2_with fail
        generalize wr.alloc (.cells #[.int .u64 0, .int .i64 0, .string ⟨#[]⟩] 47) = W1 at hX1 hF1 hJ1 hZ1 hA1 ⊢
        obtain ⟨B7, hB7⟩ : ∃ B7, wr.heap.size = B7 := ⟨_, rfl⟩
        have HB7 := Lib.hid hB7
        rw [hB7] at hF1 hZ1 hltb hlt1 ⊢
        have HX1 := Lib.hid hX1
        have h7 := hF1.2.2.2
        obtain ⟨a0, a1, a2, a3⟩ := hX1
        obtain ⟨y0, t, hyt⟩ : ∃ y0 t, R.data.toList = y0 :: t := by
          cases h : R.data.toList with
          | nil => exact absurd h HRN.out
          | cons y0 t => exact ⟨y0, t, rfl⟩
        clear c0 c1 f1 hB7 a3
        cases ht : takeF K[i] R.data.toList with
        | none =>
          have K2 := Lib.hid (fun w => (show Calls Try.prog 37 #[.int .u8 (K[i].toNat : Int), .string R] w (fun e w' => e = .returned (.tuple #[.agg #[.int .u64 0, .int .i64 0, .string ⟨#[]⟩], .string ⟨#[]⟩, .bool false]) ∧ Below w.heap.size w w') by have := KT.out w; rw [ht] at this; exact this))
          have HTN := Lib.hid (show takeAll K.data.toList F0.data.toList = none by rw [HT.out, hd, hyt, takeAll_none (by rw [← hyt]; exact ht)]; rfl)
          clear hd hyt ht
          gi_region_with_o (first | (refine ⟨trivial, ?_⟩; gi_at_call 37; refine (callsIn_wide.2 (K2.out _)).mono ?_; rintro e w2 ⟨rfl, b2⟩; have f0 := (b2.frozen (p := ⟨B7, 0, none⟩) h7).trans (hZ1 0); have f2 := (b2.frozen (p := ⟨B7, 1, none⟩) h7).trans (hZ1 1); have f3 := (b2.frozen (p := ⟨B7, 2, none⟩) h7).trans (hZ1 2); have f4 := (b2.frozen (p := ⟨b + 1, 0, none⟩) HX1.out.lt).trans HX1.out.f1; have g1 := (b2.cell (p := ⟨b + 1, 0, none⟩) HX1.out.lt).trans HX1.out.c1; obtain ⟨e0, e1, e2, e3⟩ := FdAt.later (w := W1.drew) hF1 b2))
          all_goals rw [fold_putFd]
          all_goals have B2 := hA1.out.trans (((Below.refl W1.heap.size W1).drew.trans b2).mono hA1.out.size)
          all_goals have B4 := below_putFd B2 (by rw [HB7.out]; exact Nat.le_refl _) (⟨0, 0, ⟨#[]⟩⟩)
          all_goals have X5 := Lib.hid ((HX.out.later B4).set (⟨#[]⟩))
          all_goals have J5 := Lib.hid (sJ.put _ _ (b + 1) (.string (⟨#[]⟩)) rfl (sJ.below _ _ _ hJs B4))
          all_goals have E5 := fd_other ((FdAt.later (w := W1.drew) hF1 b2).put (⟨0, 0, ⟨#[]⟩⟩)) (by omega : B7 ≠ b + 1) (.string (⟨#[]⟩))
          all_goals clear b2 f0 f2 f3 f4 g1 e0 e1 e2 e3 B2 B4
          all_goals generalize (putFd w2 B7 (⟨0, 0, ⟨#[]⟩⟩)).setCell ⟨b + 1, 0, none⟩ (.string (⟨#[]⟩)) = W5 at X5 J5 E5 ⊢
          all_goals obtain ⟨e0, e1, e2, e3⟩ := E5
          all_goals obtain ⟨fn, tmps, assign, body, hy, hRd⟩ := hY (yes fs) ((⟨0, 0, ⟨#[]⟩⟩, false)) W5 J5.out (⟨by simp [yes]; omega, .inr ⟨rfl, HTN.out⟩⟩)
          all_goals simp only [enc2] at hy
          all_goals try simp only at e0 e1 e2
          all_goals clear e3
          all_goals gi_wp2_with fail
          all_goals (
            refine hRd.mono ?_
            rintro e W6 (⟨rfl, hJ6, hk6⟩ | ⟨rfl, hx6⟩)
            · gi_wp2
              refine bodyPost_ret (results_none rfl _ _ _) rfl ?_
              exact ⟨⟨_, rfl⟩, .inl ⟨_, .inr ⟨fs, _, rfl⟩, hJ6⟩⟩
            · gi_wp2
              refine bodyPost_ret (results_none rfl _ _ _) rfl ?_
              exact ⟨⟨_, rfl⟩, .inr ⟨_, trivial, hx6⟩⟩)
        | some x =>
          obtain ⟨f, r⟩ := x
          have K2 := Lib.hid (fun w => (show Calls Try.prog 37 #[.int .u8 (K[i].toNat : Int), .string R] w (fun e w' => e = .returned (.tuple #[.agg #[.int .u64 f.n, .int .i64 f.i, .string f.s], .string ⟨r.toArray⟩, .bool true]) ∧ Below w.heap.size w w') by have := KT.out w; rw [ht] at this; exact this))
          have HTS := Lib.hid (show takeAll K.data.toList F0.data.toList = (takeAll (K.data.toList.drop (i + 1)) r).map (fun L => (fs ++ [f]) ++ L) by
            rw [HT.out, hd, hyt, takeAll_some (by rw [← hyt]; exact ht)]
            cases takeAll (K.data.toList.drop (i + 1)) r <;> simp)
          have hr9 : r.length ≤ 100000 := by
            have := (take_sound hL ht HRN.out).1
            have h2 := congrArg List.length this
            rw [List.length_append] at h2
            have e : R.data.toList.length = R.size := by simp
            omega
          clear hd hyt ht
          gi_region_with_o (first | (refine ⟨trivial, ?_⟩; gi_at_call 37; refine (callsIn_wide.2 (K2.out _)).mono ?_; rintro e w2 ⟨rfl, b2⟩; have f0 := (b2.frozen (p := ⟨B7, 0, none⟩) h7).trans (hZ1 0); have f2 := (b2.frozen (p := ⟨B7, 1, none⟩) h7).trans (hZ1 1); have f3 := (b2.frozen (p := ⟨B7, 2, none⟩) h7).trans (hZ1 2); have f4 := (b2.frozen (p := ⟨b + 1, 0, none⟩) HX1.out.lt).trans HX1.out.f1; have g1 := (b2.cell (p := ⟨b + 1, 0, none⟩) HX1.out.lt).trans HX1.out.c1; obtain ⟨e0, e1, e2, e3⟩ := FdAt.later (w := W1.drew) hF1 b2))
          all_goals rw [fold_putFd]
          all_goals have B2 := hA1.out.trans (((Below.refl W1.heap.size W1).drew.trans b2).mono hA1.out.size)
          all_goals have B4 := below_putFd B2 (by rw [HB7.out]; exact Nat.le_refl _) (f)
          all_goals have X5 := Lib.hid ((HX.out.later B4).set (⟨r.toArray⟩))
          all_goals have J5 := Lib.hid (sJ.put _ _ (b + 1) (.string (⟨r.toArray⟩)) rfl (sJ.below _ _ _ hJs B4))
          all_goals have E5 := fd_other ((FdAt.later (w := W1.drew) hF1 b2).put (f)) (by omega : B7 ≠ b + 1) (.string (⟨r.toArray⟩))
          all_goals clear b2 f0 f2 f3 f4 g1 e0 e1 e2 e3 B2 B4
          all_goals generalize (putFd w2 B7 (f)).setCell ⟨b + 1, 0, none⟩ (.string (⟨r.toArray⟩)) = W5 at X5 J5 E5 ⊢
          all_goals obtain ⟨e0, e1, e2, e3⟩ := E5
          all_goals obtain ⟨fn, tmps, assign, body, hy, hRd⟩ := hY (yes fs) ((f, true)) W5 J5.out (⟨by simp [yes]; omega, .inl rfl⟩)
          all_goals simp only [enc2] at hy
          all_goals try simp only at e0 e1 e2
          all_goals clear e3
          all_goals gi_wp2_with fail
          all_goals (
            refine hRd.mono ?_
            rintro e W6 (⟨rfl, hJ6, hk6⟩ | ⟨rfl, hx6⟩)
            · have X6 := Lib.hid (X5.out.kept hk6)
              gi_wp2
              go_roundw
              case rel => exact ⟨fs ++ [f], i + 1, ⟨r.toArray⟩, by simp, by simp; omega, by omega, HTS.out, hr9, X6.out, by rw [yes_snoc]; exact hJ6⟩
              case measure => simp [intOf]; omega
            · gi_wp2
              refine bodyPost_ret (results_none rfl _ _ _) rfl ?_
              exact ⟨⟨_, rfl⟩, .inr ⟨_, trivial, hx6⟩⟩)
      · have hiK : i = K.size := by omega
        have HTN := Lib.hid (show takeAll K.data.toList F0.data.toList = none by
          rw [HT.out, List.drop_of_length_le (by have : K.data.toList.length = K.size := by simp
                                                 omega)]
          cases h : R.data.toList with
          | nil => exact absurd h HRN.out
          | cons y t => rfl)
        have p1 : ¬ (i : Int) < (K.size : Int) := by omega
        have hF1 := fd_new wr ⟨0, 0, ⟨#[]⟩⟩ 47
        have J5 := Lib.hid (sJ.below _ _ _ hJs ((Below.refl _ wr).alloc (Nat.le_refl _) (.cells #[.int .u64 0, .int .i64 0, .string ⟨#[]⟩] 47)))
        obtain ⟨fn, tmps, assign, body, hy, hRd⟩ := hY (yes fs) (⟨0, 0, ⟨#[]⟩⟩, false) _ J5.out (⟨by simp [yes]; omega, .inr ⟨rfl, HTN.out⟩⟩)
        simp only [enc2] at hy
        gi_wp2_with fail
        refine hRd.mono ?_
        rintro e W6 (⟨rfl, hJ6, hk6⟩ | ⟨rfl, hx6⟩)
        · gi_wp2
          refine bodyPost_ret (results_none rfl _ _ _) rfl ?_
          exact ⟨⟨_, rfl⟩, .inl ⟨_, .inr ⟨fs, _, rfl⟩, hJ6⟩⟩
        · gi_wp2
          refine bodyPost_ret (results_none rfl _ _ _) rfl ?_
          exact ⟨⟨_, rfl⟩, .inr ⟨_, trivial, hx6⟩⟩
    · have HTT := Lib.hid (show takeAll K.data.toList F0.data.toList = some fs by
        rw [HT.out, hRn]
        cases K.data.toList.drop i <;> simp [takeAll])
      clear hRn
      gi_wp2_with fail
      go_end0
      exact ⟨⟨_, rfl⟩, .inl ⟨yes fs, .inl ⟨fs, HTT.out, rfl⟩, hJs⟩⟩
end Go.Proofs.Ytoicnpekbpphjaa.Or
