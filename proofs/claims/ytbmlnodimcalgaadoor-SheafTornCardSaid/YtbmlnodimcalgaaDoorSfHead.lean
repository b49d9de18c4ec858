/- Package sheaf: the calls whose answers the document fixes. -/
import Derived.Test.YtbmlnodimcalgaaDoorSfGet
import Derived.Test.YtbmlnodimcalgaaDoorSfTop
import Derived.Test.YtbmlnodimcalgaaDoorSfGreat
import Derived.Test.YtbmlnodimcalgaaDoorSfRMany
namespace Go.Proofs.YtbmlnodimcalgaaDoor.Shf
open Go.RowKit Tal
theorem then_below {a b c : World} (h : Below a.heap.size a b) (k : Below b.heap.size b c) : Below a.heap.size a c := h.trans (k.mono h.size)
theorem _root_.Go.Proofs.YtbmlnodimcalgaaDoor.Tryd.infou8 : (Tryd.prog.info? 5).map (fun i => (i.zero, i.size, i.bytes)) = some (some (.int .u8 0), 1, 1) := by kernel_rfl
/-- n new bytes. -/
def mkn (n : Nat) (u : World) : World := u.alloc (.cells (madeCells #[.int .u8 0] n) 5)
theorem maken (n : Nat) (hn : n ≤ 1000) (u : World) : (Instr.makeSlice 39 (.int .i64 (n : Int)) (.int .i64 (n : Int))).run Tryd.prog u = .ok (.slice (some ⟨u.heap.size, 0, none⟩) n n) (mkn n u) := by
  obtain ⟨i0, hi, hz0, hz1, hz2⟩ := info_parts Tryd.infou8
  have := run_make (P := Tryd.prog) u 39 5 i0 (.int .u8 0) Tryd.underlying39 hi hz0 .i64 .i64 n n (by omega) (by omega) (by rw [hz2]; omega) (by omega)
  rw [hz1] at this
  simpa [mkn, Value.cells] using this
theorem mkn_row (n : Nat) (u : World) : Cm.RowAt (mkn n u) u.heap.size ((List.replicate n (0 : UInt8)).map Le.bv) := by
  have h := Cm.row_new u (List.replicate n (.int .u8 0)) 5
  have e : (List.replicate n (Value.int .u8 0)).toArray = madeCells #[.int .u8 0] n := by
    unfold madeCells
    apply Array.ext'
    simp
    refine List.ext_getElem (by simp) fun j h1 h2 => ?_
    simp [Nat.mod_one]
  rw [e] at h
  have e2 : (List.replicate n (0 : UInt8)).map Le.bv = List.replicate n (.int .u8 0) := by rw [List.map_replicate]; rfl
  rw [e2]
  exact h
theorem conn (n : Nat) (u : World) : (convert 39 9 (.slice (some ⟨u.heap.size, 0, none⟩) n n)).run Tryd.prog (mkn n u) = .ok (.string ⟨(List.replicate n (0 : UInt8)).toArray⟩) (mkn n u) := by
  have h := Le.row_str (cap := n) (mkn_row n u)
  rwa [List.length_replicate] at h
def mkz (u : World) : World := mkn 50 u
theorem makez (u : World) : (Instr.makeSlice 39 (.int .i64 50) (.int .i64 50)).run Tryd.prog u = .ok (.slice (some ⟨u.heap.size, 0, none⟩) 50 50) (mkz u) := maken 50 (by omega) u
def z50 : List UInt8 := List.replicate 50 0
theorem conz (u : World) : (convert 39 9 (.slice (some ⟨u.heap.size, 0, none⟩) 50 50)).run Tryd.prog (mkz u) = .ok (.string ⟨z50.toArray⟩) (mkz u) := conn 50 u
theorem below_mkz (u : World) : Below u.heap.size u (mkz u) := (Below.refl _ u).alloc (Nat.le_refl _) _
theorem strs3 (u : World) (a b c : ByteArray) : Strs (u.alloc (.cells #[.string a, .string b, .string c] 9)) (some ⟨u.heap.size, 0, none⟩) [a, b, c] := by
  intro j hj
  refine ⟨u.heap.size, 0, rfl, by simp, ?_⟩
  rcases j with _|_|_|j
  · simp [go_sem]
  · simp [go_sem]
  · simp [go_sem]
  · simp at hj; omega
theorem sget_at (o : Option (Nat × List UInt8 × Nat)) (w : World) (a : Option Addr) (cap : Nat) (L : List ByteArray) (hL : Strs w a L) (hl : L.length ≤ 1000) (hcap : L.length ≤ cap) (n : Nat) (hn : L.length = n) (ho : Sf.pget (lists L) = o) :
    Calls Tryd.prog 14 #[.slice a n cap] w (SGet o w) := by
  subst hn ho
  exact sheafget w a cap L hL hl hcap
theorem many_at (n : Int) (k : Nat) (w : World) (h1 : -9223372036854775808 ≤ n) (h2 : n ≤ 9223372036854775807) (hk : Sf.many n.toNat = k) : Calls Tryd.prog 11 #[.int .i64 n] w fun e w' => e = .returned (.int .i64 k) ∧ w = w' := by
  subst hk
  exact many_c n w h1 h2
theorem top_at (w : World) (a : Option Addr) (cap : Nat) (S : List (List UInt8)) (n k : Nat) (hL : Strs w a (bas S)) (hl : S.length ≤ 1000) (hn : S.length = n) (hk : Sf.top S = k) :
    Calls Tryd.prog 16 #[.slice a n cap] w fun e w' => e = .returned (.int .u64 k) ∧ Below w.heap.size w w' := by
  have h := top_c w a cap (bas S) hL (by unfold bas; rw [List.length_map]; omega)
  have e1 : (bas S).length = n := by unfold bas; rw [List.length_map]; exact hn
  have e2 : Sf.top ((bas S).map fun s => s.data.toList) = k := by rw [← hk]; exact congrArg Sf.top (lists_bas S)
  rw [e1, e2] at h
  exact h
theorem sh_two : ∃ A B, Sf.sheaf 7 z50 = [A, B] := by
  have h : (Sf.sheaf 7 z50).length = 2 := by rw [Sf.sheaf_len]; decide +kernel
  match hs : Sf.sheaf 7 z50 with
  | [] => rw [hs] at h; simp at h
  | [_] => rw [hs] at h; simp at h
  | [A, B] => exact ⟨A, B, rfl⟩
  | _ :: _ :: _ :: _ => rw [hs] at h; simp at h
set_option maxRecDepth 100000 in
set_option maxHeartbeats 1600000 in
theorem head_c (w : World) : Calls Tryd.prog 7 #[] w fun e w' => e = .returned (.bool true) ∧ Below w.heap.size w w' := by
  obtain ⟨A, B, hAB⟩ := sh_two
  have hm : Sf.many z50.length = 2 := by decide +kernel
  have K1 := Lib.hid (fun w => (show Calls Tryd.prog 8 #[.int .u64 7, .string ⟨z50.toArray⟩] w (PutOk 7 z50 w) from put_ok 7 ⟨z50.toArray⟩ w (by decide) (by decide) (by decide)))
  unfold PutOk at K1
  rw [hAB] at K1
  have K2 := Lib.hid (fun w => put_no 0 ⟨#[97]⟩ w (by decide) (by decide) 2 (.inl ⟨rfl, rfl⟩))
  have hp3 : Sf.pget (lists (bas [A, B] ++ [⟨#[120]⟩])) = some (7, z50, 2) := by
    refine Sf.pget_of_is ?_
    have := Sf.is_put 7 z50 [[120]] (by decide) (by decide) (by decide)
    rw [hAB, hm] at this
    exact this
  have hp1 : Sf.pget (lists (bas [A])) = none := by
    have := Sf.is_less 7 z50 (by decide) (by decide) (by decide)
    rw [hAB, hm] at this
    exact this
  have ht : Sf.top [A, B] = 7 := by rw [← hAB]; exact Sf.top_put 7 z50 (by decide)
  have K3 := Lib.hid (fun u => (sget_at _ _ _ 3 _ ((strs3 u ⟨A.toArray⟩ ⟨B.toArray⟩ ⟨#[120]⟩).later (Below.refl _ _).drew) (by simp) (by simp) 3 rfl hp3).mono fun e w' h => (⟨h.1 _ _ _ rfl, ((Below.refl _ u).alloc (Nat.le_refl _) _).drew.trans (h.2.2.mono (by simp))⟩ : e = .returned (.tuple #[.int .u64 (7 : Nat), .string ⟨z50.toArray⟩, .int .i64 (2 : Nat), .bool true]) ∧ Below u.heap.size u w'))
  have KA := Lib.hid (fun (w : World) g cap (hs : Strs w (some ⟨g, 0, none⟩) (bas [A])) (hc : 1 ≤ cap) => (sget_at _ w _ cap _ hs (by simp [bas]) (by simpa [bas] using hc) 1 rfl hp1).mono fun e w' h => (⟨h.2.1 rfl, h.2.2⟩ : e = .returned (.tuple #[.int .u64 0, .string ⟨#[]⟩, .int .i64 0, .bool false]) ∧ Below w.heap.size w w'))
  have KT := Lib.hid (fun (w : World) g cap (hs : Strs w (some ⟨g, 0, none⟩) (bas [A, B])) => top_at w _ cap [A, B] 2 7 hs (by simp) rfl ht)
  have M47 := Lib.hid (fun w => many_at 47 1 w (by omega) (by omega) (by decide +kernel))
  have M48 := Lib.hid (fun w => many_at 48 2 w (by omega) (by omega) (by decide +kernel))
  have M96 := Lib.hid (fun w => many_at 96 3 w (by omega) (by omega) (by decide +kernel))
  have M1 := Lib.hid (fun w => many_at (-1) 1 w (by omega) (by omega) (by decide +kernel))
  clear hAB hp3 hp1 ht hm
  have m50 := makez
  have c50 := conz
  have hz : (⟨z50.toArray⟩ : ByteArray).size = 50 := by decide
  obtain ⟨Z, hZ⟩ : ∃ Z, z50 = Z := ⟨_, rfl⟩
  rw [hZ] at c50 K1 K3 hz
  have hz1 : ((Z.length : Int) == 50) = true := by rw [← hZ]; decide
  clear hZ hz
  go_enter Tryd.func7, Tryd.ntmps7
  go_wp2_with fail
  refine (K1.out _).mono ?_
  rintro e w1 ⟨g, gc, rfl, hown, b1⟩
  have B1 := Lib.hid (then_below (below_mkz w) b1)
  have HS := Lib.hid (strs_own hown)
  have hgc : 2 ≤ gc := by
    rcases hown.2 with ⟨h, _⟩ | ⟨g', c', cur, hv, _, _, h1, _⟩
    · simp at h
    · injection hv with _ _ h2; subst h2; exact h1
  clear hown b1
  go_wp2_with fail
  refine (K2.out _).mono ?_
  rintro e w2 ⟨rfl, b2⟩
  have B2 := Lib.hid (then_below B1.out b2)
  have HS2 := Lib.hid (HS.out.later b2)
  clear b2
  obtain ⟨g', o', hgo, hgl, d0⟩ := HS2.out 0 (by simp [bas])
  obtain ⟨rfl, rfl⟩ : g = g' ∧ 0 = o' := by simpa using hgo
  obtain ⟨g', o', hgo, _, d1⟩ := HS2.out 1 (by simp [bas])
  obtain ⟨rfl, rfl⟩ : g = g' ∧ 0 = o' := by simpa using hgo
  have c0 : w2.cell? ⟨g, 0, none⟩ = some (.string ⟨A.toArray⟩) := d0
  have c1 : w2.cell? ⟨g, 1, none⟩ = some (.string ⟨B.toArray⟩) := d1
  have hgc1 : (1 : Int) ≤ (gc : Int) := by omega
  clear d0 d1 hgo
  go_wp2_with fail
  go_region_with (first | (go_at_call 14; refine (K3.out _).mono ?_; rintro e u3 ⟨rfl, b3⟩))
  all_goals
    have B3 := Lib.hid (then_below B2.out b3)
    have HS3 := Lib.hid (HS2.out.later b3)
    clear b3 c0 c1
    have HSA := Lib.hid (show Strs u3 (some ⟨g, 0, none⟩) (bas [A]) from strs_take HS3.out 1)
    have KA3 := Lib.hid (KA.out u3 g gc HSA.out (by omega))
    clear HSA
    go_wp2_with fail
    refine KA3.out.mono ?_
    rintro e u4 ⟨rfl, b4⟩
    have B4 := Lib.hid (then_below B3.out b4)
    have HS4 := Lib.hid (HS3.out.later b4)
    clear b4 KA3 HS3 B3
    have KT4 := Lib.hid (KT.out u4 g gc HS4.out)
    clear HS4 KT KA
    go_wp2_with fail
    trace "C"
    refine (M47.out _).mono ?_
    rintro e w' ⟨rfl, rfl⟩
    go_wp2_with fail
    trace "D"
    refine (M48.out _).mono ?_
    rintro e w' ⟨rfl, rfl⟩
    go_wp2_with fail
    refine (M96.out _).mono ?_
    rintro e w' ⟨rfl, rfl⟩
    go_wp2_with fail
    refine (M1.out _).mono ?_
    rintro e w' ⟨rfl, rfl⟩
    go_wp2_with fail
    trace "E"
    refine KT4.out.mono ?_
    rintro e u5 ⟨rfl, b5⟩
    go_wp2_with fail
    go_ret
    exact ⟨rfl, then_below B4.out b5⟩
end Go.Proofs.YtbmlnodimcalgaaDoor.Shf
