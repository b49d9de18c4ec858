/- Package row: Add, Begin; the rows of the statements' helpers. -/
import Derived.Test.YtnfjgmdpokpbbaaDoorRkRef2
namespace Go.Proofs.YtnfjgmdpokpbbaaDoor.Rk
open Go Go.RowKit Dv Rf Shf
open Tal (Strs bas)
/-- The bounds under which a put is looked at. -/
structure Fit (x : Dr) (R : Rm) : Prop where
  hx : x.Ok
  hP : x.P.length ≤ 95000
  n0 : 0 < R.n
  n9 : R.n ≤ 4096
  f : R.f + R.n ≤ x.D.length
  t : R.S.T.length ≤ 90000
  e : R.S.e ≤ R.n
section
variable (U : Nat → Prop) (r g : Nat) (x : Dr) (R : Rm) (w : World) (h : Both U w r g x R) (hf : Fit x R)
include h hf
theorem put_c (p n : Nat) (hp : p ≤ R.n) (t : ByteArray) (hn9 : n < 18446744073709551616) (ht9 : t.size ≤ 9223372036854775807) :
    Calls Tryd.prog 36 #[.pointer (some ⟨r, 0, none⟩), .int .i64 (p : Int), .int .u64 (n : Int), .string t] w (PtRes U r g (putM R x p n t.data.toList) w) := by
  have e1 : t.data.toList.length = t.size := by simp
  have h' := h.lt
  cases hd : R.down with
  | true =>
    have e : putM R x p n t.data.toList = (R, x, 30) := by unfold putM; rw [if_pos hd]
    rw [e]
    exact put_down U r g x R w h hf.n0 p n t hd
  | false =>
    by_cases h1 : n ≤ R.top
    · have e : putM R x p n t.data.toList = (R, x, 2) := by unfold putM; rw [if_neg (by simp [hd]), if_pos h1]
      rw [e]
      exact put_low U r g x R w h hf.n0 p n t hd h1
    · by_cases h2 : 98304 < t.size
      · have e : putM R x p n t.data.toList = (R, x, 3) := by unfold putM; rw [if_neg (by simp [hd]), if_neg h1, if_pos (by omega)]
        rw [e]
        exact put_long U r g x R w h hf.n0 p n t ht9 hn9 hd (by omega) h2
      · by_cases h3 : R.n < p + Sf.many t.data.toList.length
        · have e : putM R x p n t.data.toList = (R, x, 6) := by unfold putM; rw [if_neg (by simp [hd]), if_neg h1, if_neg (by omega), if_pos h3]
          rw [e]
          exact put_full U r g x R w h hf.n0 p n t hn9 hd (by omega) (by omega) hf.n9 hp h3
        · exact (put_go _ r g x R w h' (fun j hj => hj.2) hf.hx hf.hP hf.n0 hf.n9 hf.f p n t hn9 hd (by omega) (by omega) (by omega) hf.t hf.e).mono fun e w' hr => ⟨hr.1, hr.2.mono fun j hj => hj.1⟩
set_option maxHeartbeats 800000 in
theorem add_c (n : Nat) (t : ByteArray) (hn9 : n < 18446744073709551616) (ht9 : t.size ≤ 9223372036854775807) :
    Calls Tryd.prog 15 #[.pointer (some ⟨r, 0, none⟩), .int .u64 (n : Int), .string t] w (PtRes U r g (putM R x R.S.e n t.data.toList) w) := by
  have KP := Lib.hid (put_c U r g x R w h hf R.S.e n hf.e t hn9 ht9)
  obtain ⟨tv, h1, h2, h3⟩ := h
  have KE := Lib.hid (end_c r g tv R w h2 hf.n0)
  clear h1 h2 h3 hf hn9 ht9
  go_enter Tryd.func15, Tryd.ntmps15
  go_wp2_with fail
  refine KE.out.mono ?_
  rintro e w' ⟨rfl, rfl⟩
  go_wp2_with fail
  refine KP.out.mono ?_
  rintro e w' ⟨rfl, hp⟩
  have HP := Lib.hid hp
  clear hp
  go_wp2_with fail
  go_ret
  exact ⟨rfl, HP.out⟩
set_option maxHeartbeats 800000 in
theorem begin_c (n : Nat) (t : ByteArray) (hn9 : n < 18446744073709551616) (ht9 : t.size ≤ 9223372036854775807) :
    Calls Tryd.prog 16 #[.pointer (some ⟨r, 0, none⟩), .int .u64 (n : Int), .string t] w (PtRes U r g (putM R x 0 n t.data.toList) w) := by
  have KP := Lib.hid (put_c U r g x R w h hf 0 n (Nat.zero_le _) t hn9 ht9)
  clear h hf hn9 ht9
  go_enter Tryd.func16, Tryd.ntmps16
  go_wp2_with fail
  refine KP.out.mono ?_
  rintro e w' ⟨rfl, hp⟩
  have HP := Lib.hid hp
  clear hp
  go_wp2_with fail
  go_ret
  exact ⟨rfl, HP.out⟩
end
end Go.Proofs.YtnfjgmdpokpbbaaDoor.Rk
