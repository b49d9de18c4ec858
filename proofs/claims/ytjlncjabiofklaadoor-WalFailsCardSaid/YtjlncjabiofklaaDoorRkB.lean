/- Joined: RkOps RkGen. -/
import Derived.Test.YtjlncjabiofklaaDoorRkC
section
namespace Go.Proofs.YtjlncjabiofklaaDoor.Rk
open Go Go.RowKit Dv Rf Shf
open Tal (Strs bas)
/-- The bounds under which a put is looked at. -/
structure Fit (x : Dr) (R : Rm) : Prop where
  hx : x.Ok
  hP : x.P.length ≤ 95000
  n0 : 0 < R.n
  n9 : R.n ≤ 4096
  f : R.f + R.n ≤ x.D.length
  t : R.S.T.length ≤ 90000
  e : R.S.e ≤ R.n
section
variable (U : Nat → Prop) (r g : Nat) (x : Dr) (R : Rm) (w : World) (h : Both U w r g x R) (hf : Fit x R)
include h hf
theorem put_c (p n : Nat) (hp : p ≤ R.n) (t : ByteArray) (hn9 : n < 18446744073709551616) (ht9 : t.size ≤ 9223372036854775807) :
    Calls Tryd.prog 41 #[.pointer (some ⟨r, 0, none⟩), .int .i64 (p : Int), .int .u64 (n : Int), .string t] w (PtRes U r g (putM R x p n t.data.toList) w) := by
  have e1 : t.data.toList.length = t.size := by simp
  have h' := h.lt
  cases hd : R.down with
  | true =>
    have e : putM R x p n t.data.toList = (R, x, 30) := by unfold putM; rw [if_pos hd]
    rw [e]
    exact put_down U r g x R w h hf.n0 p n t hd
  | false =>
    by_cases h1 : n ≤ R.top
    · have e : putM R x p n t.data.toList = (R, x, 2) := by unfold putM; rw [if_neg (by simp [hd]), if_pos h1]
      rw [e]
      exact put_low U r g x R w h hf.n0 p n t hd h1
    · by_cases h2 : 98304 < t.size
      · have e : putM R x p n t.data.toList = (R, x, 3) := by unfold putM; rw [if_neg (by simp [hd]), if_neg h1, if_pos (by omega)]
        rw [e]
        exact put_long U r g x R w h hf.n0 p n t ht9 hn9 hd (by omega) h2
      · by_cases h3 : R.n < p + Sf.many t.data.toList.length
        · have e : putM R x p n t.data.toList = (R, x, 6) := by unfold putM; rw [if_neg (by simp [hd]), if_neg h1, if_neg (by omega), if_pos h3]
          rw [e]
          exact put_full U r g x R w h hf.n0 p n t hn9 hd (by omega) (by omega) hf.n9 hp h3
        · exact (put_go _ r g x R w h' (fun j hj => hj.2) hf.hx hf.hP hf.n0 hf.n9 hf.f p n t hn9 hd (by omega) (by omega) (by omega) hf.t hf.e).mono fun e w' hr => ⟨hr.1, hr.2.mono fun j hj => hj.1⟩
set_option maxHeartbeats 800000 in
theorem add_c (n : Nat) (t : ByteArray) (hn9 : n < 18446744073709551616) (ht9 : t.size ≤ 9223372036854775807) :
    Calls Tryd.prog 28 #[.pointer (some ⟨r, 0, none⟩), .int .u64 (n : Int), .string t] w (PtRes U r g (putM R x R.S.e n t.data.toList) w) := by
  have KP := Lib.hid (put_c U r g x R w h hf R.S.e n hf.e t hn9 ht9)
  obtain ⟨tv, h1, h2, h3⟩ := h
  have KE := Lib.hid (end_c r g tv R w h2 hf.n0)
  clear h1 h2 h3 hf hn9 ht9
  go_enter Tryd.func28, Tryd.ntmps28
  go_wp2_with fail
  refine KE.out.mono ?_
  rintro e w' ⟨rfl, rfl⟩
  go_wp2_with fail
  refine KP.out.mono ?_
  rintro e w' ⟨rfl, hp⟩
  have HP := Lib.hid hp
  clear hp
  go_wp2_with fail
  go_ret
  exact ⟨rfl, HP.out⟩
set_option maxHeartbeats 800000 in
theorem begin_c (n : Nat) (t : ByteArray) (hn9 : n < 18446744073709551616) (ht9 : t.size ≤ 9223372036854775807) :
    Calls Tryd.prog 29 #[.pointer (some ⟨r, 0, none⟩), .int .u64 (n : Int), .string t] w (PtRes U r g (putM R x 0 n t.data.toList) w) := by
  have KP := Lib.hid (put_c U r g x R w h hf 0 n (Nat.zero_le _) t hn9 ht9)
  clear h hf hn9 ht9
  go_enter Tryd.func29, Tryd.ntmps29
  go_wp2_with fail
  refine KP.out.mono ?_
  rintro e w' ⟨rfl, hp⟩
  have HP := Lib.hid hp
  clear hp
  go_wp2_with fail
  go_ret
  exact ⟨rfl, HP.out⟩
end
end Go.Proofs.YtjlncjabiofklaaDoor.Rk
end
section
namespace Go.Proofs.YtjlncjabiofklaaDoor.Rk
open Go Go.RowKit Dv Rf Shf
open Tal (Strs bas)
theorem putM_ok {R : Rm} {x : Dr} {p n : Nat} {t : List UInt8} (hd : R.down = false) (ht : R.top < n) (hl : t.length ≤ 98304) (hp : p + Sf.many t.length ≤ R.n) (hF : x.F = none) :
    putM R x p n t = (⟨R.f, R.n, (if p = 0 then Ld.zero else R.S).took n t (Sf.many t.length), n, false⟩, drv x (R.f + p) (Sf.sheaf n t), 0) := by
  unfold putM
  rw [if_neg (by simp [hd]), if_neg (by omega), if_neg (by omega), if_neg (by omega), if_pos (by unfold through; rw [hF])]
theorem putM_low {R : Rm} {x : Dr} {p n : Nat} {t : List UInt8} (hd : R.down = false) (ht : n ≤ R.top) : putM R x p n t = (R, x, 2) := by
  unfold putM
  rw [if_neg (by simp [hd]), if_pos ht]
theorem putM_full {R : Rm} {x : Dr} {p n : Nat} {t : List UInt8} (hd : R.down = false) (ht : R.top < n) (hl : t.length ≤ 98304) (hp : R.n < p + Sf.many t.length) : putM R x p n t = (R, x, 6) := by
  unfold putM
  rw [if_neg (by simp [hd]), if_neg (by omega), if_neg (by omega), if_pos hp]
theorem sheaf_64 {n : Nat} {t : List UInt8} (hn : n < 18446744073709551616) : ∀ b ∈ Sf.sheaf n t, b.length = 64 := fun _ hb => (Sf.sheaf_leaf hn hb).1
theorem strs_two (u : World) (a b : ByteArray) : Strs (u.alloc (.cells #[.string a, .string b] TStr)) (some ⟨u.heap.size, 0, none⟩) [a, b] := by
  intro j hj
  refine ⟨u.heap.size, 0, rfl, by simp, ?_⟩
  rcases j with _|_|j
  · simp [go_sem]
  · simp [go_sem]
  · simp at hj; omega
theorem strs_one (u : World) (a : ByteArray) : Strs (u.alloc (.cells #[.string a] TStr)) (some ⟨u.heap.size, 0, none⟩) [a] := by
  intro j hj
  refine ⟨u.heap.size, 0, rfl, by simp, ?_⟩
  rcases j with _|j
  · simp [go_sem]
  · simp at hj
theorem top_zero (n : Nat) : Sf.top (List.replicate n (List.replicate 64 0)) = 0 := by
  have : Sf.top (List.replicate n (List.replicate 64 (0 : UInt8))) ≤ 0 := top_le fun x hx => by
    rw [List.eq_of_mem_replicate hx]
    decide +kernel
  omega
/-- An Add with its answer. -/
theorem add_at {U : Nat → Prop} {r g : Nat} {x x' : Dr} {R R' : Rm} {w : World} {p n : Nat} {z : Int} (t : ByteArray) (h : Both U w r g x R) (hf : Fit x R) (hn9 : n < 18446744073709551616) (ht9 : t.size ≤ 1000) (hp : R.S.e = p) (hm : putM R x p n t.data.toList = (R', x', z)) :
    Calls Tryd.prog 28 #[.pointer (some ⟨r, 0, none⟩), .int .u64 (n : Int), .string t] w fun e w' => e = .returned (.int .i64 z) ∧ Past U r g x' R' w w' := by
  subst hp
  have := add_c U r g x R w h hf n t hn9 (by omega)
  unfold PtRes at this
  rwa [hm] at this
theorem begin_at {U : Nat → Prop} {r g : Nat} {x x' : Dr} {R R' : Rm} {w : World} {n : Nat} {z : Int} (t : ByteArray) (h : Both U w r g x R) (hf : Fit x R) (hn9 : n < 18446744073709551616) (ht9 : t.size ≤ 1000) (hm : putM R x 0 n t.data.toList = (R', x', z)) :
    Calls Tryd.prog 29 #[.pointer (some ⟨r, 0, none⟩), .int .u64 (n : Int), .string t] w fun e w' => e = .returned (.int .i64 z) ∧ Past U r g x' R' w w' := by
  have := begin_c U r g x R w h hf n t hn9 (by omega)
  unfold PtRes at this
  rwa [hm] at this
/-- A row opened on a drive. -/
theorem op_both {S : Nat → Prop} {w w' : World} {g : Nat} {x : Dr} {f n : Nat} {e : Ending} (h : Dv.Os S w g x) (hr : OpRes x f n g w e w') : ∃ r s, e = .returned (.tuple #[.pointer (some ⟨r, 0, none⟩), .int .i64 0]) ∧ Loaded (seg x.V f n) s ∧ Both (fun j => S j ∨ w.heap.size ≤ j) w' r g x ⟨f, n, s, Sf.top (seg x.V f n), false⟩ ∧ Below w.heap.size w w' := by
  obtain ⟨r, tv, s, rfl, h1, h2, h3, h4⟩ := hr
  exact ⟨r, s, rfl, h1, ⟨tv, (h.later h3).mono fun j hj => .inl hj, h2, fun j hj => .inr (h4 j hj)⟩, h3⟩
end Go.Proofs.YtjlncjabiofklaaDoor.Rk
end
