/- Joined: WlWrite1 WlWrite2 WlWrite3 WlWrite4 WlWrite5. -/
import Derived.Test.YtjlncjabiofklaaDoorWjA
import Derived.BigQuiet
import Derived.Deep.DeepCutAuto
section
namespace Go.Proofs.YtjlncjabiofklaaDoor.Wl
open Go Go.RowKit Dv Rf Shf Rk
open Tal (Strs bas)
def WrRes (U : Nat → Prop) (b r0 r1 g : Nat) (q : Wm × Dr × Int) (w : World) (e : Ending) (w' : World) : Prop := e = .returned (.int .i64 q.2.2) ∧ Then U b r0 r1 g q.2.1 q.1 w w'
set_option maxHeartbeats 1600000 in
theorem write_down (U : Nat → Prop) (b r0 r1 g : Nat) (x : Dr) (M : Wm) (w : World) (h : Trio U w b r0 r1 g x M) (hn : M.now ≤ 1) (a : Option Addr) (n c : Nat) (k many : Nat) (f : Value) (hd : M.down = true) :
    Calls Tryd.prog 27 #[.pointer (some ⟨b, 0, none⟩), .slice a n c, .int .i64 (k : Int), .int .i64 (many : Int), f] w (WrRes U b r0 r1 g (M, x, 30) w) := by
  have H := Lib.hid h
  have HW : Hid (∀ n, Rw (w.drewN n) b TWl (M.cells r0 r1)) := fun n => by
    obtain ⟨t0, t1, h⟩ := H.out.later (drewN_below (Below.refl _ w) n)
    exact h.blk
  have KI := Lib.hid (is_c b r0 r1 M w (HW.out 0) hn)
  have HC : Hid (∀ n, (w.drewN n).cell? ⟨b, 6, none⟩ = some (.bool true)) := fun n => by have := (HW.out n).cell 6; rw [← hd]; exact this
  have HT : Hid (∀ n, Then U b r0 r1 g x M w (w.drewN n)) := fun n => Then.refl H.out (drewN_below (Below.refl _ w) n)
  clear h hn hd
  go_enter Tryd.func27, Tryd.ntmps27
  go_wp2_with fail
  refine KI.out.mono ?_
  rintro e w' ⟨rfl, n1, rfl⟩
  have c6 := HC.out n1
  go_wp2_with fail
  go_ret
  exact ⟨rfl, HT.out n1⟩
end Go.Proofs.YtjlncjabiofklaaDoor.Wl
end
section
namespace Go.Proofs.YtjlncjabiofklaaDoor.Wl
open Go Go.RowKit Dv Rf Shf Rk
open Tal (Strs bas)
set_option maxRecDepth 100000 in
set_option maxHeartbeats 3200000 in
theorem write_piece (U : Nat → Prop) (b r0 r1 g : Nat) (x : Dr) (M : Wm) (w : World) (h : Trio U w b r0 r1 g x M) (hn : M.now ≤ 1) (a : Option Addr) (c : Nat) (l : List Rk.Sec) (hs : Strs w a (bas l)) (hl : l.length ≤ 100000) (hsz : ∀ p ∈ l, p.length ≤ 1000000) (k many : Nat) (f : Value) (hd : M.down = false)
    (hp : l.all (fun p => decide (p.length ≤ 60000)) = false) :
    Calls Tryd.prog 27 #[.pointer (some ⟨b, 0, none⟩), .slice a l.length c, .int .i64 (k : Int), .int .i64 (many : Int), f] w (WrRes U b r0 r1 g (M, x, 3) w) := by
  have H := Lib.hid h
  have HW : Hid (∀ n, Rw (w.drewN n) b TWl (M.cells r0 r1)) := fun n => by
    obtain ⟨t0, t1, h⟩ := H.out.later (drewN_below (Below.refl _ w) n)
    exact h.blk
  have KI := Lib.hid (is_c b r0 r1 M w (HW.out 0) hn)
  have HC : Hid (∀ n, (w.drewN n).cell? ⟨b, 6, none⟩ = some (.bool false)) := fun n => by have := (HW.out n).cell 6; rw [← hd]; exact this
  have HT : Hid (∀ u, Below w.heap.size w u → Then U b r0 r1 g x M w u) := fun u hu => Then.refl H.out hu
  have HB0 : Hid (∀ n, Below w.heap.size w (w.drewN n)) := fun n => drewN_below (Below.refl _ w) n
  have HS := Lib.hid hs
  have HZ := Lib.hid hsz
  have HP := Lib.hid hp
  clear h hn hd hs hsz hp
  go_enter Tryd.func27, Tryd.ntmps27
  go_wp2_with fail
  refine KI.out.mono ?_
  rintro e w' ⟨rfl, n1, rfl⟩
  have c6 := HC.out n1
  have HB1 := Lib.hid (HB0.out n1)
  go_wp2_with fail
  go_loopg [27] l.length (fun kx s27 wr => ∃ i : Nat, s27 = .int .i64 (i : Int) ∧ i ≤ l.length ∧ Hid (Below w.heap.size w wr) ∧ Hid (∀ j (h : j < l.length), j < i → l[j].length ≤ 60000) ∧ l.length ≤ i + kx)
  case atStart => exact ⟨0, rfl, Nat.zero_le _, HB1, fun j hj h => (by omega), by omega⟩
  case round =>
    obtain ⟨i, rfl, hi9, HB, HA, hkx⟩ := hrel
    by_cases hlt : i < l.length
    · obtain ⟨bb, off, rfl, hbl, hc⟩ := (HS.out.later HB.out) i (by rw [bas_len]; exact hlt)
      have e1 : (bas l)[i]'(by rw [bas_len]; exact hlt) = ⟨(l[i]'hlt).toArray⟩ := by simp [bas]
      rw [e1] at hc
      have hz := HZ.out _ (List.getElem_mem hlt)
      obtain ⟨t, hte⟩ : ∃ t, t = (⟨(l[i]'hlt).toArray⟩ : ByteArray) := ⟨_, rfl⟩
      have htl : t.size = (l[i]'hlt).length := by rw [hte]; rfl
      rw [← hte] at hc
      rw [← htl] at hz
      have HTL := Lib.hid htl
      clear e1 hte htl hbl
      have j0 : (0 : Int) ≤ (i : Int) := by omega
      have j1 : (i : Int) < (l.length : Int) := by omega
      by_cases hlong : 60000 < t.size
      · have hlong' : (60000 : Int) < (t.size : Int) := by omega
        have HTx := Lib.hid (HT.out _ HB.out)
        clear hkx
        go_wp2_with fail
        go_ret
        exact ⟨rfl, HTx.out⟩
      · have hlong' : ¬ (60000 : Int) < (t.size : Int) := by omega
        go_wp2_with fail
        go_roundg (l.length - (i + 1))
        case measure => omega
        case rel => exact ⟨i + 1, by simp, by omega, HB, fun j hj h => (by by_cases e : j < i; exact HA.out j hj e; obtain rfl : j = i := (by omega); rw [← HTL.out]; omega), by omega⟩
    · exfalso
      have := HP.out
      rw [Bool.eq_false_iff] at this
      apply this
      rw [List.all_eq_true]
      intro p hp
      obtain ⟨j, hj, rfl⟩ := List.getElem_of_mem hp
      exact decide_eq_true (HA.out j hj (by omega))
end Go.Proofs.YtjlncjabiofklaaDoor.Wl
end
section
namespace Go.Proofs.YtjlncjabiofklaaDoor.Wl
open Go Go.RowKit Dv Rf Shf Rk
open Tal (Strs bas)
set_option maxRecDepth 100000 in
set_option maxHeartbeats 3200000 in
theorem write_rowlong (U : Nat → Prop) (b r0 r1 g : Nat) (x : Dr) (M : Wm) (w : World) (h : Trio U w b r0 r1 g x M) (hn : M.now ≤ 1) (a : Option Addr) (c : Nat) (l : List Rk.Sec) (hs : Strs w a (bas l)) (hl : l.length ≤ 100000) (hsz : ∀ p ∈ l, p.length ≤ 1000000) (k many : Nat) (f : Value) (hd : M.down = false)
    (hp : l.all (fun p => decide (p.length ≤ 60000)) = true) (hl4 : l.length ≤ 10000) (hlong : 98304 < (Tal.row (bas l)).length) :
    Calls Tryd.prog 27 #[.pointer (some ⟨b, 0, none⟩), .slice a l.length c, .int .i64 (k : Int), .int .i64 (many : Int), f] w (WrRes U b r0 r1 g (M, x, 3) w) := by
  have H := Lib.hid h
  have HW : Hid (∀ n, Rw (w.drewN n) b TWl (M.cells r0 r1)) := fun n => by
    obtain ⟨t0, t1, h⟩ := H.out.later (drewN_below (Below.refl _ w) n)
    exact h.blk
  have KI := Lib.hid (is_c b r0 r1 M w (HW.out 0) hn)
  have HC : Hid (∀ n, (w.drewN n).cell? ⟨b, 6, none⟩ = some (.bool false)) := fun n => by have := (HW.out n).cell 6; rw [← hd]; exact this
  have HT : Hid (∀ u, Below w.heap.size w u → Then U b r0 r1 g x M w u) := fun u hu => Then.refl H.out hu
  have HB0 : Hid (∀ n, Below w.heap.size w (w.drewN n)) := fun n => drewN_below (Below.refl _ w) n
  have HS := Lib.hid hs
  have HZ := Lib.hid hsz
  have htot : Tal.total (bas l) ≤ l.length * 60000 := by
    have : ∀ m : List Rk.Sec, m.all (fun p => decide (p.length ≤ 60000)) = true → Tal.total (bas m) ≤ m.length * 60000 := by
      intro m
      induction m with
      | nil => intro _; simp [Tal.total, bas]
      | cons p m ih =>
        intro hm
        rw [List.all_cons, Bool.and_eq_true] at hm
        have h1 := of_decide_eq_true hm.1
        have h2 := ih hm.2
        have e : Tal.total (bas (p :: m)) = p.length + Tal.total (bas m) := by simp [Tal.total, bas, ByteArray.size]
        rw [e, List.length_cons]
        omega
    exact this l hp
  have KT : Hid (∀ u, Below w.heap.size w u → Calls Tryd.prog 38 #[.slice a l.length c] u (Tal.PutRes (Tal.row (bas l)) u)) := fun u hu => by
    have := Tal.row_c u a c (bas l) (HS.out.later hu) (by rw [bas_len]; omega) (by omega)
    rwa [bas_len] at this
  have HP := Lib.hid hp
  clear h hn hd hs hsz hp htot
  go_enter Tryd.func27, Tryd.ntmps27
  go_wp2_with fail
  refine KI.out.mono ?_
  rintro e w' ⟨rfl, n1, rfl⟩
  have c6 := HC.out n1
  have HB1 := Lib.hid (HB0.out n1)
  go_wp2_with fail
  go_loopg [27] l.length (fun kx s27 wr => ∃ i : Nat, s27 = .int .i64 (i : Int) ∧ i ≤ l.length ∧ Hid (Below w.heap.size w wr) ∧ Hid (∀ j (h : j < l.length), j < i → l[j].length ≤ 60000) ∧ l.length ≤ i + kx)
  case atStart => exact ⟨0, rfl, Nat.zero_le _, HB1, fun j hj h => (by omega), by omega⟩
  case round =>
    obtain ⟨i, rfl, hi9, HB, HA, hkx⟩ := hrel
    by_cases hlt : i < l.length
    · obtain ⟨bb, off, rfl, hbl, hc⟩ := (HS.out.later HB.out) i (by rw [bas_len]; exact hlt)
      have e1 : (bas l)[i]'(by rw [bas_len]; exact hlt) = ⟨(l[i]'hlt).toArray⟩ := by simp [bas]
      rw [e1] at hc
      have hz := HZ.out _ (List.getElem_mem hlt)
      obtain ⟨t, hte⟩ : ∃ t, t = (⟨(l[i]'hlt).toArray⟩ : ByteArray) := ⟨_, rfl⟩
      have htl : t.size = (l[i]'hlt).length := by rw [hte]; rfl
      rw [← hte] at hc
      rw [← htl] at hz
      have HTL := Lib.hid htl
      clear e1 hte htl hbl
      have j0 : (0 : Int) ≤ (i : Int) := by omega
      have j1 : (i : Int) < (l.length : Int) := by omega
      have hshort : t.size ≤ 60000 := by rw [HTL.out]; exact of_decide_eq_true (List.all_eq_true.1 HP.out _ (List.getElem_mem hlt))
      have hlong' : ¬ (60000 : Int) < (t.size : Int) := by omega
      go_wp2_with fail
      go_roundg (l.length - (i + 1))
      case measure => omega
      case rel => exact ⟨i + 1, by simp, by omega, HB, fun j hj h => (by by_cases e : j < i; exact HA.out j hj e; obtain rfl : j = i := (by omega); rw [← HTL.out]; omega), by omega⟩
    · obtain ⟨s, hse⟩ : ∃ s, s = (⟨(Tal.row (bas l)).toArray⟩ : ByteArray) := ⟨_, rfl⟩
      have hsl : s.size = (Tal.row (bas l)).length := by rw [hse]; rfl
      have hl5 : (98304 : Int) < (s.size : Int) := by omega
      have KT1 : Hid (Calls Tryd.prog 38 #[.slice a l.length c] wr fun e w' => e = .returned (.string s) ∧ Below wr.heap.size wr w') := by
        rw [hse]; exact KT.out wr HB.out
      clear hse hsl hlong hkx
      go_wp2_with fail
      refine KT1.out.mono ?_
      rintro e w5 ⟨rfl, hb⟩
      have HTx := Lib.hid (HT.out _ (HB.out.trans (hb.mono HB.out.size)))
      clear hb
      go_wp2_with fail
      go_ret
      exact ⟨rfl, HTx.out⟩
end Go.Proofs.YtjlncjabiofklaaDoor.Wl
end
section
namespace Go.Proofs.YtjlncjabiofklaaDoor.Wl
open Go Go.RowKit Dv Rf Shf Rk
open Tal (Strs bas)
set_option maxRecDepth 100000 in
set_option maxHeartbeats 3200000 in
theorem write_full (U : Nat → Prop) (b r0 r1 g : Nat) (x : Dr) (M : Wm) (w : World) (h : Trio U w b r0 r1 g x M) (hn : M.now ≤ 1) (a : Option Addr) (c : Nat) (l : List Rk.Sec) (hs : Strs w a (bas l)) (hl : l.length ≤ 100000) (hsz : ∀ p ∈ l, p.length ≤ 1000000) (k many : Nat) (f : Value) (hd : M.down = false)
    (hp : l.all (fun p => decide (p.length ≤ 60000)) = true) (hl4 : l.length ≤ 10000) (hlong : (Tal.row (bas l)).length ≤ 98304) (h0 : 0 < M.R0.n) (h1 : 0 < M.R1.n) (hf9 : 9223372036854775807 ≤ M.top) :
    Calls Tryd.prog 27 #[.pointer (some ⟨b, 0, none⟩), .slice a l.length c, .int .i64 (k : Int), .int .i64 (many : Int), f] w (WrRes U b r0 r1 g (M, x, 6) w) := by
  have H := Lib.hid h
  have HW : Hid (∀ n, Rw (w.drewN n) b TWl (M.cells r0 r1)) := fun n => by
    obtain ⟨t0, t1, h⟩ := H.out.later (drewN_below (Below.refl _ w) n)
    exact h.blk
  have KI := Lib.hid (is_c b r0 r1 M w (HW.out 0) hn)
  have HC : Hid (∀ n, (w.drewN n).cell? ⟨b, 6, none⟩ = some (.bool false)) := fun n => by have := (HW.out n).cell 6; rw [← hd]; exact this
  have HT : Hid (∀ u, Below w.heap.size w u → Then U b r0 r1 g x M w u) := fun u hu => Then.refl H.out hu
  have HB0 : Hid (∀ n, Below w.heap.size w (w.drewN n)) := fun n => drewN_below (Below.refl _ w) n
  have HS := Lib.hid hs
  have HZ := Lib.hid hsz
  have htot : Tal.total (bas l) ≤ l.length * 60000 := by
    have : ∀ m : List Rk.Sec, m.all (fun p => decide (p.length ≤ 60000)) = true → Tal.total (bas m) ≤ m.length * 60000 := by
      intro m
      induction m with
      | nil => intro _; simp [Tal.total, bas]
      | cons p m ih =>
        intro hm
        rw [List.all_cons, Bool.and_eq_true] at hm
        have h1 := of_decide_eq_true hm.1
        have h2 := ih hm.2
        have e : Tal.total (bas (p :: m)) = p.length + Tal.total (bas m) := by simp [Tal.total, bas, ByteArray.size]
        rw [e, List.length_cons]
        omega
    exact this l hp
  have KT : Hid (∀ u, Below w.heap.size w u → Calls Tryd.prog 38 #[.slice a l.length c] u (Tal.PutRes (Tal.row (bas l)) u)) := fun u hu => by
    have := Tal.row_c u a c (bas l) (HS.out.later hu) (by rw [bas_len]; omega) (by omega)
    rwa [bas_len] at this
  have HP := Lib.hid hp
  have K0 : Hid (∀ u, Below w.heap.size w u → Calls Tryd.prog 39 #[.pointer (some ⟨r0, 0, none⟩)] u fun e w' => e = .returned (.int .u64 (M.R0.top : Int)) ∧ u = w') := fun u hu => by
    obtain ⟨t0, t1, h⟩ := H.out.later hu
    exact top_c r0 g t0 M.R0 u h.a0 h0
  have K1 : Hid (∀ u, Below w.heap.size w u → Calls Tryd.prog 39 #[.pointer (some ⟨r1, 0, none⟩)] u fun e w' => e = .returned (.int .u64 (M.R1.top : Int)) ∧ u = w') := fun u hu => by
    obtain ⟨t0, t1, h⟩ := H.out.later hu
    exact top_c r1 g t1 M.R1 u h.a1 h1
  have HV : Hid (∀ u, Below w.heap.size w u → u.cell? ⟨b, 0, none⟩ = some (.pointer (some ⟨r0, 0, none⟩)) ∧ u.cell? ⟨b, 1, none⟩ = some (.pointer (some ⟨r1, 0, none⟩))) := fun u hu => by
    obtain ⟨t0, t1, h⟩ := H.out.later hu
    exact ⟨h.blk.cell 0, h.blk.cell 1⟩
  obtain ⟨m, hm⟩ : ∃ m, m = M.top := ⟨_, rfl⟩
  have HMX : Hid (max (M.R0.top : Int) (M.R1.top : Int) = (m : Int)) := by
    show _ = _
    rw [hm]; unfold Wm.top; omega
  have HF : Hid (decide ((m : Int) ≥ 9223372036854775807) = true) := by rw [← hm] at hf9; exact decide_eq_true (by omega)
  clear h hn hd hs hsz hp htot h0 h1 hf9 hm
  go_enter Tryd.func27, Tryd.ntmps27
  go_wp2_with fail
  refine KI.out.mono ?_
  rintro e w' ⟨rfl, n1, rfl⟩
  have c6 := HC.out n1
  have HB1 := Lib.hid (HB0.out n1)
  go_wp2_with fail
  go_loopg [27] l.length (fun kx s27 wr => ∃ i : Nat, s27 = .int .i64 (i : Int) ∧ i ≤ l.length ∧ Hid (Below w.heap.size w wr) ∧ Hid (∀ j (h : j < l.length), j < i → l[j].length ≤ 60000) ∧ l.length ≤ i + kx)
  case atStart => exact ⟨0, rfl, Nat.zero_le _, HB1, fun j hj h => (by omega), by omega⟩
  case round =>
    obtain ⟨i, rfl, hi9, HB, HA, hkx⟩ := hrel
    by_cases hlt : i < l.length
    · obtain ⟨bb, off, rfl, hbl, hc⟩ := (HS.out.later HB.out) i (by rw [bas_len]; exact hlt)
      have e1 : (bas l)[i]'(by rw [bas_len]; exact hlt) = ⟨(l[i]'hlt).toArray⟩ := by simp [bas]
      rw [e1] at hc
      have hz := HZ.out _ (List.getElem_mem hlt)
      obtain ⟨t, hte⟩ : ∃ t, t = (⟨(l[i]'hlt).toArray⟩ : ByteArray) := ⟨_, rfl⟩
      have htl : t.size = (l[i]'hlt).length := by rw [hte]; rfl
      rw [← hte] at hc
      rw [← htl] at hz
      have HTL := Lib.hid htl
      clear e1 hte htl hbl
      have j0 : (0 : Int) ≤ (i : Int) := by omega
      have j1 : (i : Int) < (l.length : Int) := by omega
      have hshort : t.size ≤ 60000 := by rw [HTL.out]; exact of_decide_eq_true (List.all_eq_true.1 HP.out _ (List.getElem_mem hlt))
      have hlong' : ¬ (60000 : Int) < (t.size : Int) := by omega
      go_wp2_with fail
      go_roundg (l.length - (i + 1))
      case measure => omega
      case rel => exact ⟨i + 1, by simp, by omega, HB, fun j hj h => (by by_cases e : j < i; exact HA.out j hj e; obtain rfl : j = i := (by omega); rw [← HTL.out]; omega), by omega⟩
    · obtain ⟨s, hse⟩ : ∃ s, s = (⟨(Tal.row (bas l)).toArray⟩ : ByteArray) := ⟨_, rfl⟩
      have hsl : s.size = (Tal.row (bas l)).length := by rw [hse]; rfl
      have hl5 : ¬ (98304 : Int) < (s.size : Int) := by omega
      have KT1 : Hid (Calls Tryd.prog 38 #[.slice a l.length c] wr fun e w' => e = .returned (.string s) ∧ Below wr.heap.size wr w') := by
        rw [hse]; exact KT.out wr HB.out
      clear hse hsl hlong hkx
      go_wp2_with fail
      refine KT1.out.mono ?_
      rintro e w5 ⟨rfl, hb⟩
      have HB5 : Hid (Below w.heap.size w w5) := HB.out.trans (hb.mono HB.out.size)
      have HB5n : Hid (∀ n, Below w.heap.size w (w5.drewN n)) := fun n => drewN_below HB5.out n
      have KQ0 : Hid (∀ n, Calls Tryd.prog 39 #[.pointer (some ⟨r0, 0, none⟩)] (w5.drewN n) fun e w' => e = .returned (.int .u64 (M.R0.top : Int)) ∧ w' = w5.drewN n) := fun n => (K0.out _ (HB5n.out n)).mono fun _ _ h => ⟨h.1, h.2.symm⟩
      have KQ1 : Hid (∀ n, Calls Tryd.prog 39 #[.pointer (some ⟨r1, 0, none⟩)] (w5.drewN n) fun e w' => e = .returned (.int .u64 (M.R1.top : Int)) ∧ w' = w5.drewN n) := fun n => (K1.out _ (HB5n.out n)).mono fun _ _ h => ⟨h.1, h.2.symm⟩
      obtain ⟨v0, v1⟩ := HV.out _ HB5.out
      clear hb
      go_wp2_with fail
      go_quiet ((first | (go_at_call 39; with_reducible exact Calls.quiet_of_same (KQ0.out _)) | (go_at_call 39; with_reducible exact Calls.quiet_of_same (KQ1.out _))))
      rw [HMX.out]
      have HB6 : Hid (Below w.heap.size w (w5.drewN nq)) := HB5n.out nq
      have HTx := Lib.hid (HT.out _ HB6.out)
      have hf := HF.out
      go_wp2_with fail
      go_ret
      exact ⟨rfl, HTx.out⟩
set_option maxRecDepth 100000 in
set_option maxHeartbeats 3200000 in
theorem write_add (U : Nat → Prop) (b r0 r1 g : Nat) (x : Dr) (M : Wm) (w : World) (h : Trio U w b r0 r1 g x M) (hn : M.now ≤ 1) (a : Option Addr) (c : Nat) (l : List Rk.Sec) (hs : Strs w a (bas l)) (hl : l.length ≤ 100000) (hsz : ∀ p ∈ l, p.length ≤ 1000000) (k many : Nat) (f : Value) (hfv : f = .func (.func 28) #[] #[]) (p : Nat) (hd : M.down = false)
    (hp : l.all (fun p => decide (p.length ≤ 60000)) = true) (hl4 : l.length ≤ 10000) (hlong : (Tal.row (bas l)).length ≤ 98304) (h0 : 0 < M.R0.n) (h1 : 0 < M.R1.n) (hf9 : M.top < 9223372036854775807) (hk : k ≤ 1) (rk : Nat) (hrk : rk = if k = 0 then r0 else r1)
    (hA : ∀ (V : Nat → Prop) (u : World), Both V u rk g x (M.half k) → Calls Tryd.prog 28 #[.pointer (some ⟨rk, 0, none⟩), .int .u64 ((M.top + 1 : Nat) : Int), .string ⟨(Tal.row (bas l)).toArray⟩] u (PtRes V rk g (putM (M.half k) x p (M.top + 1) (Tal.row (bas l))) u))
    (R1 : Rm) (x1 x2 : Dr) (z1 z2 : Int) (hq : putM (M.half k) x p (M.top + 1) (Tal.row (bas l)) = (R1, x1, z1)) (hsy : x1.sync = (x2, z2)) (hz2 : z2 = 0 ∨ z2 = 30) (hx1 : z1 = 0 → x1.Ok ∧ x1.P.length ≤ 100000 ∧ 0 < R1.n ∧ R1.n ≤ 100000 ∧ R1.S.e ≤ R1.n) :
    Calls Tryd.prog 27 #[.pointer (some ⟨b, 0, none⟩), .slice a l.length c, .int .i64 (k : Int), .int .i64 (many : Int), f] w (WrRes U b r0 r1 g (wrHalf M x k many p (Tal.row (bas l))) w) := by
  have H := Lib.hid h
  have HW : Hid (∀ n, Rw (w.drewN n) b TWl (M.cells r0 r1)) := fun n => by
    obtain ⟨t0, t1, h⟩ := H.out.later (drewN_below (Below.refl _ w) n)
    exact h.blk
  have KI := Lib.hid (is_c b r0 r1 M w (HW.out 0) hn)
  have HC : Hid (∀ n, (w.drewN n).cell? ⟨b, 6, none⟩ = some (.bool false)) := fun n => by have := (HW.out n).cell 6; rw [← hd]; exact this
  have HT : Hid (∀ u, Below w.heap.size w u → Then U b r0 r1 g x M w u) := fun u hu => Then.refl H.out hu
  have HB0 : Hid (∀ n, Below w.heap.size w (w.drewN n)) := fun n => drewN_below (Below.refl _ w) n
  have HS := Lib.hid hs
  have HZ := Lib.hid hsz
  have htot : Tal.total (bas l) ≤ l.length * 60000 := by
    have : ∀ m : List Rk.Sec, m.all (fun p => decide (p.length ≤ 60000)) = true → Tal.total (bas m) ≤ m.length * 60000 := by
      intro m
      induction m with
      | nil => intro _; simp [Tal.total, bas]
      | cons p m ih =>
        intro hm
        rw [List.all_cons, Bool.and_eq_true] at hm
        have h1 := of_decide_eq_true hm.1
        have h2 := ih hm.2
        have e : Tal.total (bas (p :: m)) = p.length + Tal.total (bas m) := by simp [Tal.total, bas, ByteArray.size]
        rw [e, List.length_cons]
        omega
    exact this l hp
  have KT : Hid (∀ u, Below w.heap.size w u → Calls Tryd.prog 38 #[.slice a l.length c] u (Tal.PutRes (Tal.row (bas l)) u)) := fun u hu => by
    have := Tal.row_c u a c (bas l) (HS.out.later hu) (by rw [bas_len]; omega) (by omega)
    rwa [bas_len] at this
  have HP := Lib.hid hp
  have K0 : Hid (∀ u, Below w.heap.size w u → Calls Tryd.prog 39 #[.pointer (some ⟨r0, 0, none⟩)] u fun e w' => e = .returned (.int .u64 (M.R0.top : Int)) ∧ u = w') := fun u hu => by
    obtain ⟨t0, t1, h⟩ := H.out.later hu
    exact top_c r0 g t0 M.R0 u h.a0 h0
  have K1 : Hid (∀ u, Below w.heap.size w u → Calls Tryd.prog 39 #[.pointer (some ⟨r1, 0, none⟩)] u fun e w' => e = .returned (.int .u64 (M.R1.top : Int)) ∧ u = w') := fun u hu => by
    obtain ⟨t0, t1, h⟩ := H.out.later hu
    exact top_c r1 g t1 M.R1 u h.a1 h1
  have HV : Hid (∀ u, Below w.heap.size w u → u.cell? ⟨b, 0, none⟩ = some (.pointer (some ⟨r0, 0, none⟩)) ∧ u.cell? ⟨b, 1, none⟩ = some (.pointer (some ⟨r1, 0, none⟩))) := fun u hu => by
    obtain ⟨t0, t1, h⟩ := H.out.later hu
    exact ⟨h.blk.cell 0, h.blk.cell 1⟩
  obtain ⟨m, hm⟩ : ∃ m, m = M.top := ⟨_, rfl⟩
  have HMX : Hid (max (M.R0.top : Int) (M.R1.top : Int) = (m : Int)) := by
    show _ = _
    rw [hm]; unfold Wm.top; omega
  have HF : Hid (decide (9223372036854775807 ≤ (m : Int)) = false) := by rw [← hm] at hf9; exact decide_eq_false (by omega)
  have HM9 : Hid (True → (m : Int) + 1 ≤ 9223372036854775807) := fun _ => by rw [← hm] at hf9; omega
  have HKC : Hid (∀ u (M' : Wm) x' V, Trio V u b r0 r1 g x' M' → u.cell? ⟨b, k, none⟩ = some (.pointer (some ⟨rk, 0, none⟩)) ∧ u.cell? ⟨rk, 0, none⟩ = some (.pointer (some ⟨g, 0, none⟩))) := fun u M' x' V hT => by
    obtain ⟨t0, t1, h⟩ := hT
    rcases (show k = 0 ∨ k = 1 by omega) with rfl | rfl
    · rw [hrk, if_pos rfl]; exact ⟨h.blk.cell 0, h.a0.c0⟩
    · rw [hrk, if_neg (by decide)]; exact ⟨h.blk.cell 1, h.a1.c0⟩
  have HRS : Hid (∀ q, q = wrHalf M x k many p (Tal.row (bas l)) → q = if z1 = 0 then ((M.put k R1).after k many z2, x2, z2) else ((M.put k R1).after k many z1, x1, z1)) := fun q e => by
    rw [e]; unfold wrHalf; simp only [hq, hsy]
  have KA : Hid (∀ s : ByteArray, s = ⟨(Tal.row (bas l)).toArray⟩ → ∀ u, Below w.heap.size w u → Calls Tryd.prog 28 #[.pointer (some ⟨rk, 0, none⟩), .int .u64 ((m : Int) + 1), .string s] u fun e w' => e = .returned (.int .i64 z1) ∧ Then U b r0 r1 g x1 (M.put k R1) w w') := fun s es u hu => by
    obtain ⟨V, h1, h2⟩ := (H.out.later hu).half k
    rw [← hrk] at h1 h2
    have h3 := hA V u h1
    rw [hq] at h3
    rw [es, hm, show ((M.top : Int) + 1) = ((M.top + 1 : Nat) : Int) by omega]
    exact h3.mono fun e w' hr => ⟨hr.1, (Then.refl H.out hu).trans ((h2 w' x1 R1 hr.2).mono fun j hj => .inl hj)⟩
  have KN : Hid (z1 = 0 → ∀ u V, Trio V u b r0 r1 g x2 ((M.put k R1).turn k) → Calls Tryd.prog 23 #[.pointer (some ⟨b, 0, none⟩), .int .i64 (many : Int)] u fun e w' => e = .returned (.tuple #[]) ∧ Then V b r0 r1 g x2 (((M.put k R1).turn k).noted many) u w') := fun e0 u V hT => by
    obtain ⟨_, _, e1, e2, e3⟩ := hx1 e0
    have eL : ((M.put k R1).turn k).L = R1 := by
      unfold Wm.L Wm.turn Wm.put
      rcases (show k = 0 ∨ k = 1 by omega) with rfl | rfl <;> simp
    exact note_c V b r0 r1 g x2 _ many u hT hk (by rw [eL]; exact e1) (by rw [eL]; exact e2) (by rw [eL]; exact e3)
  have KS : Hid (z1 = 0 → ∀ u V, Trio V u b r0 r1 g x1 (M.put k R1) → Calls Tryd.prog 40 #[.pointer (some ⟨g, 0, none⟩)] u fun e w' => e = .returned (.int .i64 z2) ∧ Then V b r0 r1 g x2 (M.put k R1) u w') := fun e0 u V hT => hT.synced (hx1 e0).1 (hx1 e0).2.1 z2 hsy
  obtain ⟨q0, hq0⟩ : ∃ q0, q0 = wrHalf M x k many p (Tal.row (bas l)) := ⟨_, rfl⟩
  rw [← hq0]
  have HQ := Lib.hid (HRS.out q0 hq0)
  have HZ2 := Lib.hid hz2
  have HFV := Lib.hid hfv
  have HK2 : Hid ((k : Int) < 2) := by show _ < _; omega
  obtain ⟨MP, hMP⟩ : ∃ MP, MP = M.put k R1 := ⟨_, rfl⟩
  rw [← hMP] at HQ KA KN KS
  clear h hn hd hs hsz hp htot h0 h1 hf9 hm hA hq hsy hz2 hx1 HRS hq0 hrk hMP hk hfv
  go_enter Tryd.func27, Tryd.ntmps27
  go_wp2_with fail
  refine KI.out.mono ?_
  rintro e w' ⟨rfl, n1, rfl⟩
  have c6 := HC.out n1
  have HB1 := Lib.hid (HB0.out n1)
  go_wp2_with fail
  go_loopg [27] l.length (fun kx s27 wr => ∃ i : Nat, s27 = .int .i64 (i : Int) ∧ i ≤ l.length ∧ Hid (Below w.heap.size w wr) ∧ Hid (∀ j (h : j < l.length), j < i → l[j].length ≤ 60000) ∧ l.length ≤ i + kx)
  case atStart => exact ⟨0, rfl, Nat.zero_le _, HB1, fun j hj h => (by omega), by omega⟩
  case round =>
    obtain ⟨i, rfl, hi9, HB, HA, hkx⟩ := hrel
    by_cases hlt : i < l.length
    · obtain ⟨bb, off, rfl, hbl, hc⟩ := (HS.out.later HB.out) i (by rw [bas_len]; exact hlt)
      have e1 : (bas l)[i]'(by rw [bas_len]; exact hlt) = ⟨(l[i]'hlt).toArray⟩ := by simp [bas]
      rw [e1] at hc
      have hz := HZ.out _ (List.getElem_mem hlt)
      obtain ⟨t, hte⟩ : ∃ t, t = (⟨(l[i]'hlt).toArray⟩ : ByteArray) := ⟨_, rfl⟩
      have htl : t.size = (l[i]'hlt).length := by rw [hte]; rfl
      rw [← hte] at hc
      rw [← htl] at hz
      have HTL := Lib.hid htl
      clear e1 hte htl hbl
      have j0 : (0 : Int) ≤ (i : Int) := by omega
      have j1 : (i : Int) < (l.length : Int) := by omega
      have hshort : t.size ≤ 60000 := by rw [HTL.out]; exact of_decide_eq_true (List.all_eq_true.1 HP.out _ (List.getElem_mem hlt))
      have hlong' : ¬ (60000 : Int) < (t.size : Int) := by omega
      go_wp2_with fail
      go_roundg (l.length - (i + 1))
      case measure => omega
      case rel => exact ⟨i + 1, by simp, by omega, HB, fun j hj h => (by by_cases e : j < i; exact HA.out j hj e; obtain rfl : j = i := (by omega); rw [← HTL.out]; omega), by omega⟩
    · obtain ⟨s, hse⟩ : ∃ s, s = (⟨(Tal.row (bas l)).toArray⟩ : ByteArray) := ⟨_, rfl⟩
      have hsl : s.size = (Tal.row (bas l)).length := by rw [hse]; rfl
      have hl5 : ¬ (98304 : Int) < (s.size : Int) := by omega
      have KT1 : Hid (Calls Tryd.prog 38 #[.slice a l.length c] wr fun e w' => e = .returned (.string s) ∧ Below wr.heap.size wr w') := by
        rw [hse]; exact KT.out wr HB.out
      have KA1 : Hid (∀ u, Below w.heap.size w u → Calls Tryd.prog 28 #[.pointer (some ⟨rk, 0, none⟩), .int .u64 ((m : Int) + 1), .string s] u fun e w' => e = .returned (.int .i64 z1) ∧ Then U b r0 r1 g x1 MP w w') := KA.out s hse
      clear hse hsl hlong hkx
      go_wp2_with fail
      refine KT1.out.mono ?_
      rintro e w5 ⟨rfl, hb⟩
      have HB5 : Hid (Below w.heap.size w w5) := HB.out.trans (hb.mono HB.out.size)
      have HB5n : Hid (∀ n, Below w.heap.size w (w5.drewN n)) := fun n => drewN_below HB5.out n
      have KQ0 : Hid (∀ n, Calls Tryd.prog 39 #[.pointer (some ⟨r0, 0, none⟩)] (w5.drewN n) fun e w' => e = .returned (.int .u64 (M.R0.top : Int)) ∧ w' = w5.drewN n) := fun n => (K0.out _ (HB5n.out n)).mono fun _ _ h => ⟨h.1, h.2.symm⟩
      have KQ1 : Hid (∀ n, Calls Tryd.prog 39 #[.pointer (some ⟨r1, 0, none⟩)] (w5.drewN n) fun e w' => e = .returned (.int .u64 (M.R1.top : Int)) ∧ w' = w5.drewN n) := fun n => (K1.out _ (HB5n.out n)).mono fun _ _ h => ⟨h.1, h.2.symm⟩
      obtain ⟨v0, v1⟩ := HV.out _ HB5.out
      clear hb
      go_wp2_with fail
      go_quiet ((first | (go_at_call 39; with_reducible exact Calls.quiet_of_same (KQ0.out _)) | (go_at_call 39; with_reducible exact Calls.quiet_of_same (KQ1.out _))))
      rw [HMX.out]
      have HB6 : Hid (Below w.heap.size w (w5.drewN nq)) := HB5n.out nq
      have vk := (HKC.out _ _ _ _ (HT.out _ HB6.out).1).1
      have KA2 := Lib.hid (KA1.out _ HB6.out)
      generalize w5.drewN nq = wq at *
      clear v0 v1 hl5
      have hk2 := HK2.out
      have hf := HF.out
      go_upto_region 17 with (fail)
      clear hf
      obtain rfl := HFV.out
      have hm9 := HM9.out trivial
      iterate 30 (first | go_step | go_simp)
      clear hm9 vk hk2
      go_wp2_with fail
      refine KA2.out.mono ?_
      rintro e w7 ⟨rfl, hb7⟩
      have HT7 := Lib.hid hb7
      obtain ⟨vk7, vg7⟩ := HKC.out _ _ _ _ hb7.1
      clear hb7 KA2
      rcases (show z1 = 0 ∨ z1 = 30 ∨ (z1 ≠ 0 ∧ z1 ≠ 30) by omega) with h1 | h1 | ⟨h1, h2⟩
      · have KS7 := Lib.hid (KS.out h1 _ _ HT7.out.1)
        have KN7 := Lib.hid (KN.out h1)
        have HQ7 : Hid (q0 = (MP.after k many z2, x2, z2)) := by have := HQ.out; rwa [if_pos h1] at this
        subst h1
        have hk2 := HK2.out
        go_wp2_with fail
        refine KS7.out.mono ?_
        rintro e w8 ⟨rfl, hb8⟩
        have HT8 := Lib.hid (HT7.out.trans hb8)
        obtain ⟨t0, t1, hv8⟩ := hb8.1
        have f2 := hv8.blk.frozen 2
        have f6 := hv8.blk.frozen 6
        have c2 : w8.cell? ⟨b, 2, none⟩ = some (.int .i64 (MP.now : Int)) := hv8.blk.cell 2
        have c6 : w8.cell? ⟨b, 6, none⟩ = some (.bool MP.down) := hv8.blk.cell 6
        clear hv8 hb8 t0 t1 KS7
        rcases HZ2.out with h2 | h2
        · have HQ8 : Hid (q0 = ((MP.turn k).noted many, x2, 0)) := by rw [HQ7.out, h2]; rfl
          subst h2
          have HT9 := Lib.hid (HT8.out.trans (HT8.out.1.turned k))
          have KN9 := Lib.hid (KN7.out _ _ HT9.out.1)
          clear f6 c6
          go_wp2_with fail
          refine KN9.out.mono ?_
          rintro e w9 ⟨rfl, hb9⟩
          have HT10 := Lib.hid (HT9.out.trans hb9)
          clear hb9
          go_wp2_with fail
          go_ret
          rw [HQ8.out]
          exact ⟨rfl, HT10.out⟩
        · have HQ8 : Hid (q0 = (MP.fall, x2, 30)) := by rw [HQ7.out, h2]; rfl
          subst h2
          have HT9 := Lib.hid (HT8.out.trans HT8.out.1.fell)
          clear f2 c2
          go_wp2_with fail
          go_ret
          rw [HQ8.out]
          exact ⟨rfl, HT9.out⟩
      · have HQ7 : Hid (q0 = (MP.fall, x1, 30)) := by have := HQ.out; rw [h1, if_neg (by decide)] at this; exact this
        subst h1
        have HT8 := Lib.hid (HT7.out.trans HT7.out.1.fell)
        obtain ⟨t0, t1, hv8⟩ := HT7.out.1
        have f6 := hv8.blk.frozen 6
        have c6 : w7.cell? ⟨b, 6, none⟩ = some (.bool MP.down) := hv8.blk.cell 6
        clear hv8 t0 t1
        go_wp2_with fail
        go_ret
        rw [HQ7.out]
        exact ⟨rfl, HT8.out⟩
      · have HQ7 : Hid (q0 = (MP, x1, z1)) := by
          have := HQ.out
          rw [if_neg h1] at this
          show _ = _
          rw [this]; unfold Wm.after; rw [if_neg h1, if_neg h2]
        have e1 : (z1 == 0) = false := by simpa using h1
        have e2 : (z1 == 30) = false := by simpa using h2
        clear h1 h2
        go_wp2_with fail
        go_ret
        rw [HQ7.out]
        exact ⟨rfl, HT7.out⟩
end Go.Proofs.YtjlncjabiofklaaDoor.Wl
end
section
namespace Go.Proofs.YtjlncjabiofklaaDoor.Wl
open Go Go.RowKit Dv Rf Shf Rk
open Tal (Strs bas)
set_option maxRecDepth 100000 in
set_option maxHeartbeats 3200000 in
theorem write_begin (U : Nat → Prop) (b r0 r1 g : Nat) (x : Dr) (M : Wm) (w : World) (h : Trio U w b r0 r1 g x M) (hn : M.now ≤ 1) (a : Option Addr) (c : Nat) (l : List Rk.Sec) (hs : Strs w a (bas l)) (hl : l.length ≤ 100000) (hsz : ∀ p ∈ l, p.length ≤ 1000000) (k many : Nat) (f : Value) (hfv : f = .func (.func 29) #[] #[]) (p : Nat) (hd : M.down = false)
    (hp : l.all (fun p => decide (p.length ≤ 60000)) = true) (hl4 : l.length ≤ 10000) (hlong : (Tal.row (bas l)).length ≤ 98304) (h0 : 0 < M.R0.n) (h1 : 0 < M.R1.n) (hf9 : M.top < 9223372036854775807) (hk : k ≤ 1) (rk : Nat) (hrk : rk = if k = 0 then r0 else r1)
    (hA : ∀ (V : Nat → Prop) (u : World), Both V u rk g x (M.half k) → Calls Tryd.prog 29 #[.pointer (some ⟨rk, 0, none⟩), .int .u64 ((M.top + 1 : Nat) : Int), .string ⟨(Tal.row (bas l)).toArray⟩] u (PtRes V rk g (putM (M.half k) x p (M.top + 1) (Tal.row (bas l))) u))
    (R1 : Rm) (x1 x2 : Dr) (z1 z2 : Int) (hq : putM (M.half k) x p (M.top + 1) (Tal.row (bas l)) = (R1, x1, z1)) (hsy : x1.sync = (x2, z2)) (hz2 : z2 = 0 ∨ z2 = 30) (hx1 : z1 = 0 → x1.Ok ∧ x1.P.length ≤ 100000 ∧ 0 < R1.n ∧ R1.n ≤ 100000 ∧ R1.S.e ≤ R1.n) :
    Calls Tryd.prog 27 #[.pointer (some ⟨b, 0, none⟩), .slice a l.length c, .int .i64 (k : Int), .int .i64 (many : Int), f] w (WrRes U b r0 r1 g (wrHalf M x k many p (Tal.row (bas l))) w) := by
  have H := Lib.hid h
  have HW : Hid (∀ n, Rw (w.drewN n) b TWl (M.cells r0 r1)) := fun n => by
    obtain ⟨t0, t1, h⟩ := H.out.later (drewN_below (Below.refl _ w) n)
    exact h.blk
  have KI := Lib.hid (is_c b r0 r1 M w (HW.out 0) hn)
  have HC : Hid (∀ n, (w.drewN n).cell? ⟨b, 6, none⟩ = some (.bool false)) := fun n => by have := (HW.out n).cell 6; rw [← hd]; exact this
  have HT : Hid (∀ u, Below w.heap.size w u → Then U b r0 r1 g x M w u) := fun u hu => Then.refl H.out hu
  have HB0 : Hid (∀ n, Below w.heap.size w (w.drewN n)) := fun n => drewN_below (Below.refl _ w) n
  have HS := Lib.hid hs
  have HZ := Lib.hid hsz
  have htot : Tal.total (bas l) ≤ l.length * 60000 := by
    have : ∀ m : List Rk.Sec, m.all (fun p => decide (p.length ≤ 60000)) = true → Tal.total (bas m) ≤ m.length * 60000 := by
      intro m
      induction m with
      | nil => intro _; simp [Tal.total, bas]
      | cons p m ih =>
        intro hm
        rw [List.all_cons, Bool.and_eq_true] at hm
        have h1 := of_decide_eq_true hm.1
        have h2 := ih hm.2
        have e : Tal.total (bas (p :: m)) = p.length + Tal.total (bas m) := by simp [Tal.total, bas, ByteArray.size]
        rw [e, List.length_cons]
        omega
    exact this l hp
  have KT : Hid (∀ u, Below w.heap.size w u → Calls Tryd.prog 38 #[.slice a l.length c] u (Tal.PutRes (Tal.row (bas l)) u)) := fun u hu => by
    have := Tal.row_c u a c (bas l) (HS.out.later hu) (by rw [bas_len]; omega) (by omega)
    rwa [bas_len] at this
  have HP := Lib.hid hp
  have K0 : Hid (∀ u, Below w.heap.size w u → Calls Tryd.prog 39 #[.pointer (some ⟨r0, 0, none⟩)] u fun e w' => e = .returned (.int .u64 (M.R0.top : Int)) ∧ u = w') := fun u hu => by
    obtain ⟨t0, t1, h⟩ := H.out.later hu
    exact top_c r0 g t0 M.R0 u h.a0 h0
  have K1 : Hid (∀ u, Below w.heap.size w u → Calls Tryd.prog 39 #[.pointer (some ⟨r1, 0, none⟩)] u fun e w' => e = .returned (.int .u64 (M.R1.top : Int)) ∧ u = w') := fun u hu => by
    obtain ⟨t0, t1, h⟩ := H.out.later hu
    exact top_c r1 g t1 M.R1 u h.a1 h1
  have HV : Hid (∀ u, Below w.heap.size w u → u.cell? ⟨b, 0, none⟩ = some (.pointer (some ⟨r0, 0, none⟩)) ∧ u.cell? ⟨b, 1, none⟩ = some (.pointer (some ⟨r1, 0, none⟩))) := fun u hu => by
    obtain ⟨t0, t1, h⟩ := H.out.later hu
    exact ⟨h.blk.cell 0, h.blk.cell 1⟩
  obtain ⟨m, hm⟩ : ∃ m, m = M.top := ⟨_, rfl⟩
  have HMX : Hid (max (M.R0.top : Int) (M.R1.top : Int) = (m : Int)) := by
    show _ = _
    rw [hm]; unfold Wm.top; omega
  have HF : Hid (decide (9223372036854775807 ≤ (m : Int)) = false) := by rw [← hm] at hf9; exact decide_eq_false (by omega)
  have HM9 : Hid (True → (m : Int) + 1 ≤ 9223372036854775807) := fun _ => by rw [← hm] at hf9; omega
  have HKC : Hid (∀ u (M' : Wm) x' V, Trio V u b r0 r1 g x' M' → u.cell? ⟨b, k, none⟩ = some (.pointer (some ⟨rk, 0, none⟩)) ∧ u.cell? ⟨rk, 0, none⟩ = some (.pointer (some ⟨g, 0, none⟩))) := fun u M' x' V hT => by
    obtain ⟨t0, t1, h⟩ := hT
    rcases (show k = 0 ∨ k = 1 by omega) with rfl | rfl
    · rw [hrk, if_pos rfl]; exact ⟨h.blk.cell 0, h.a0.c0⟩
    · rw [hrk, if_neg (by decide)]; exact ⟨h.blk.cell 1, h.a1.c0⟩
  have HRS : Hid (∀ q, q = wrHalf M x k many p (Tal.row (bas l)) → q = if z1 = 0 then ((M.put k R1).after k many z2, x2, z2) else ((M.put k R1).after k many z1, x1, z1)) := fun q e => by
    rw [e]; unfold wrHalf; simp only [hq, hsy]
  have KA : Hid (∀ s : ByteArray, s = ⟨(Tal.row (bas l)).toArray⟩ → ∀ u, Below w.heap.size w u → Calls Tryd.prog 29 #[.pointer (some ⟨rk, 0, none⟩), .int .u64 ((m : Int) + 1), .string s] u fun e w' => e = .returned (.int .i64 z1) ∧ Then U b r0 r1 g x1 (M.put k R1) w w') := fun s es u hu => by
    obtain ⟨V, h1, h2⟩ := (H.out.later hu).half k
    rw [← hrk] at h1 h2
    have h3 := hA V u h1
    rw [hq] at h3
    rw [es, hm, show ((M.top : Int) + 1) = ((M.top + 1 : Nat) : Int) by omega]
    exact h3.mono fun e w' hr => ⟨hr.1, (Then.refl H.out hu).trans ((h2 w' x1 R1 hr.2).mono fun j hj => .inl hj)⟩
  have KN : Hid (z1 = 0 → ∀ u V, Trio V u b r0 r1 g x2 ((M.put k R1).turn k) → Calls Tryd.prog 23 #[.pointer (some ⟨b, 0, none⟩), .int .i64 (many : Int)] u fun e w' => e = .returned (.tuple #[]) ∧ Then V b r0 r1 g x2 (((M.put k R1).turn k).noted many) u w') := fun e0 u V hT => by
    obtain ⟨_, _, e1, e2, e3⟩ := hx1 e0
    have eL : ((M.put k R1).turn k).L = R1 := by
      unfold Wm.L Wm.turn Wm.put
      rcases (show k = 0 ∨ k = 1 by omega) with rfl | rfl <;> simp
    exact note_c V b r0 r1 g x2 _ many u hT hk (by rw [eL]; exact e1) (by rw [eL]; exact e2) (by rw [eL]; exact e3)
  have KS : Hid (z1 = 0 → ∀ u V, Trio V u b r0 r1 g x1 (M.put k R1) → Calls Tryd.prog 40 #[.pointer (some ⟨g, 0, none⟩)] u fun e w' => e = .returned (.int .i64 z2) ∧ Then V b r0 r1 g x2 (M.put k R1) u w') := fun e0 u V hT => hT.synced (hx1 e0).1 (hx1 e0).2.1 z2 hsy
  obtain ⟨q0, hq0⟩ : ∃ q0, q0 = wrHalf M x k many p (Tal.row (bas l)) := ⟨_, rfl⟩
  rw [← hq0]
  have HQ := Lib.hid (HRS.out q0 hq0)
  have HZ2 := Lib.hid hz2
  have HFV := Lib.hid hfv
  have HK2 : Hid ((k : Int) < 2) := by show _ < _; omega
  obtain ⟨MP, hMP⟩ : ∃ MP, MP = M.put k R1 := ⟨_, rfl⟩
  rw [← hMP] at HQ KA KN KS
  clear h hn hd hs hsz hp htot h0 h1 hf9 hm hA hq hsy hz2 hx1 HRS hq0 hrk hMP hk hfv
  go_enter Tryd.func27, Tryd.ntmps27
  go_wp2_with fail
  refine KI.out.mono ?_
  rintro e w' ⟨rfl, n1, rfl⟩
  have c6 := HC.out n1
  have HB1 := Lib.hid (HB0.out n1)
  go_wp2_with fail
  go_loopg [27] l.length (fun kx s27 wr => ∃ i : Nat, s27 = .int .i64 (i : Int) ∧ i ≤ l.length ∧ Hid (Below w.heap.size w wr) ∧ Hid (∀ j (h : j < l.length), j < i → l[j].length ≤ 60000) ∧ l.length ≤ i + kx)
  case atStart => exact ⟨0, rfl, Nat.zero_le _, HB1, fun j hj h => (by omega), by omega⟩
  case round =>
    obtain ⟨i, rfl, hi9, HB, HA, hkx⟩ := hrel
    by_cases hlt : i < l.length
    · obtain ⟨bb, off, rfl, hbl, hc⟩ := (HS.out.later HB.out) i (by rw [bas_len]; exact hlt)
      have e1 : (bas l)[i]'(by rw [bas_len]; exact hlt) = ⟨(l[i]'hlt).toArray⟩ := by simp [bas]
      rw [e1] at hc
      have hz := HZ.out _ (List.getElem_mem hlt)
      obtain ⟨t, hte⟩ : ∃ t, t = (⟨(l[i]'hlt).toArray⟩ : ByteArray) := ⟨_, rfl⟩
      have htl : t.size = (l[i]'hlt).length := by rw [hte]; rfl
      rw [← hte] at hc
      rw [← htl] at hz
      have HTL := Lib.hid htl
      clear e1 hte htl hbl
      have j0 : (0 : Int) ≤ (i : Int) := by omega
      have j1 : (i : Int) < (l.length : Int) := by omega
      have hshort : t.size ≤ 60000 := by rw [HTL.out]; exact of_decide_eq_true (List.all_eq_true.1 HP.out _ (List.getElem_mem hlt))
      have hlong' : ¬ (60000 : Int) < (t.size : Int) := by omega
      go_wp2_with fail
      go_roundg (l.length - (i + 1))
      case measure => omega
      case rel => exact ⟨i + 1, by simp, by omega, HB, fun j hj h => (by by_cases e : j < i; exact HA.out j hj e; obtain rfl : j = i := (by omega); rw [← HTL.out]; omega), by omega⟩
    · obtain ⟨s, hse⟩ : ∃ s, s = (⟨(Tal.row (bas l)).toArray⟩ : ByteArray) := ⟨_, rfl⟩
      have hsl : s.size = (Tal.row (bas l)).length := by rw [hse]; rfl
      have hl5 : ¬ (98304 : Int) < (s.size : Int) := by omega
      have KT1 : Hid (Calls Tryd.prog 38 #[.slice a l.length c] wr fun e w' => e = .returned (.string s) ∧ Below wr.heap.size wr w') := by
        rw [hse]; exact KT.out wr HB.out
      have KA1 : Hid (∀ u, Below w.heap.size w u → Calls Tryd.prog 29 #[.pointer (some ⟨rk, 0, none⟩), .int .u64 ((m : Int) + 1), .string s] u fun e w' => e = .returned (.int .i64 z1) ∧ Then U b r0 r1 g x1 MP w w') := KA.out s hse
      clear hse hsl hlong hkx
      go_wp2_with fail
      refine KT1.out.mono ?_
      rintro e w5 ⟨rfl, hb⟩
      have HB5 : Hid (Below w.heap.size w w5) := HB.out.trans (hb.mono HB.out.size)
      have HB5n : Hid (∀ n, Below w.heap.size w (w5.drewN n)) := fun n => drewN_below HB5.out n
      have KQ0 : Hid (∀ n, Calls Tryd.prog 39 #[.pointer (some ⟨r0, 0, none⟩)] (w5.drewN n) fun e w' => e = .returned (.int .u64 (M.R0.top : Int)) ∧ w' = w5.drewN n) := fun n => (K0.out _ (HB5n.out n)).mono fun _ _ h => ⟨h.1, h.2.symm⟩
      have KQ1 : Hid (∀ n, Calls Tryd.prog 39 #[.pointer (some ⟨r1, 0, none⟩)] (w5.drewN n) fun e w' => e = .returned (.int .u64 (M.R1.top : Int)) ∧ w' = w5.drewN n) := fun n => (K1.out _ (HB5n.out n)).mono fun _ _ h => ⟨h.1, h.2.symm⟩
      obtain ⟨v0, v1⟩ := HV.out _ HB5.out
      clear hb
      go_wp2_with fail
      go_quiet ((first | (go_at_call 39; with_reducible exact Calls.quiet_of_same (KQ0.out _)) | (go_at_call 39; with_reducible exact Calls.quiet_of_same (KQ1.out _))))
      rw [HMX.out]
      have HB6 : Hid (Below w.heap.size w (w5.drewN nq)) := HB5n.out nq
      have vk := (HKC.out _ _ _ _ (HT.out _ HB6.out).1).1
      have KA2 := Lib.hid (KA1.out _ HB6.out)
      generalize w5.drewN nq = wq at *
      clear v0 v1 hl5
      have hk2 := HK2.out
      have hf := HF.out
      go_upto_region 17 with (fail)
      clear hf
      obtain rfl := HFV.out
      have hm9 := HM9.out trivial
      iterate 30 (first | go_step | go_simp)
      clear hm9 vk hk2
      go_wp2_with fail
      refine KA2.out.mono ?_
      rintro e w7 ⟨rfl, hb7⟩
      have HT7 := Lib.hid hb7
      obtain ⟨vk7, vg7⟩ := HKC.out _ _ _ _ hb7.1
      clear hb7 KA2
      rcases (show z1 = 0 ∨ z1 = 30 ∨ (z1 ≠ 0 ∧ z1 ≠ 30) by omega) with h1 | h1 | ⟨h1, h2⟩
      · have KS7 := Lib.hid (KS.out h1 _ _ HT7.out.1)
        have KN7 := Lib.hid (KN.out h1)
        have HQ7 : Hid (q0 = (MP.after k many z2, x2, z2)) := by have := HQ.out; rwa [if_pos h1] at this
        subst h1
        have hk2 := HK2.out
        go_wp2_with fail
        refine KS7.out.mono ?_
        rintro e w8 ⟨rfl, hb8⟩
        have HT8 := Lib.hid (HT7.out.trans hb8)
        obtain ⟨t0, t1, hv8⟩ := hb8.1
        have f2 := hv8.blk.frozen 2
        have f6 := hv8.blk.frozen 6
        have c2 : w8.cell? ⟨b, 2, none⟩ = some (.int .i64 (MP.now : Int)) := hv8.blk.cell 2
        have c6 : w8.cell? ⟨b, 6, none⟩ = some (.bool MP.down) := hv8.blk.cell 6
        clear hv8 hb8 t0 t1 KS7
        rcases HZ2.out with h2 | h2
        · have HQ8 : Hid (q0 = ((MP.turn k).noted many, x2, 0)) := by rw [HQ7.out, h2]; rfl
          subst h2
          have HT9 := Lib.hid (HT8.out.trans (HT8.out.1.turned k))
          have KN9 := Lib.hid (KN7.out _ _ HT9.out.1)
          clear f6 c6
          go_wp2_with fail
          refine KN9.out.mono ?_
          rintro e w9 ⟨rfl, hb9⟩
          have HT10 := Lib.hid (HT9.out.trans hb9)
          clear hb9
          go_wp2_with fail
          go_ret
          rw [HQ8.out]
          exact ⟨rfl, HT10.out⟩
        · have HQ8 : Hid (q0 = (MP.fall, x2, 30)) := by rw [HQ7.out, h2]; rfl
          subst h2
          have HT9 := Lib.hid (HT8.out.trans HT8.out.1.fell)
          clear f2 c2
          go_wp2_with fail
          go_ret
          rw [HQ8.out]
          exact ⟨rfl, HT9.out⟩
      · have HQ7 : Hid (q0 = (MP.fall, x1, 30)) := by have := HQ.out; rw [h1, if_neg (by decide)] at this; exact this
        subst h1
        have HT8 := Lib.hid (HT7.out.trans HT7.out.1.fell)
        obtain ⟨t0, t1, hv8⟩ := HT7.out.1
        have f6 := hv8.blk.frozen 6
        have c6 : w7.cell? ⟨b, 6, none⟩ = some (.bool MP.down) := hv8.blk.cell 6
        clear hv8 t0 t1
        go_wp2_with fail
        go_ret
        rw [HQ7.out]
        exact ⟨rfl, HT8.out⟩
      · have HQ7 : Hid (q0 = (MP, x1, z1)) := by
          have := HQ.out
          rw [if_neg h1] at this
          show _ = _
          rw [this]; unfold Wm.after; rw [if_neg h1, if_neg h2]
        have e1 : (z1 == 0) = false := by simpa using h1
        have e2 : (z1 == 30) = false := by simpa using h2
        clear h1 h2
        go_wp2_with fail
        go_ret
        rw [HQ7.out]
        exact ⟨rfl, HT7.out⟩
end Go.Proofs.YtjlncjabiofklaaDoor.Wl
end
