/- Package row: put. -/
import Derived.Test.YtjlncjabiofklaaDoorRkBoth
import Derived.Deep.RegionHeld3
import Derived.Deep.DrawnRows
namespace Go.Proofs.YtjlncjabiofklaaDoor.Rk
open Go Go.RowKit Dv Rf Shf
open Tal (Strs bas)
section
variable {w w' : World} {r g : Nat} {tv : Value} {R R' : Rm}
theorem left_set (h : At w r g tv R) (hb : Rw w' r TR (R'.cells g tv)) (hS : R'.S.T = R.S.T) (k : Keeps (fun j => j = r) w w') : Left r g tv R' w w' :=
  ⟨tv, ⟨hb, by rw [hS]; exact own_keeps h.t k fun j hj e => h.ne (by rw [hj, e])⟩, k.mono fun j hj => .inl (.inl hj), fun j hj => .inl hj⟩
theorem left_down (h : At w r g tv R) : Left r g tv ⟨R.f, R.n, R.S, R.top, true⟩ w (w.setCell ⟨r, 8, none⟩ (.bool true)) :=
  left_set h (h.blk.setCell 8 _) rfl ((Keeps.refl _ w).setCell r 8 _ (.inl rfl))
theorem left_top (h : At w r g tv R) (n : Nat) : Left r g tv ⟨R.f, R.n, R.S, n, R.down⟩ w (w.setCell ⟨r, 6, none⟩ (.int .u64 (n : Int))) :=
  left_set h (h.blk.setCell 6 _) rfl ((Keeps.refl _ w).setCell r 6 _ (.inl rfl))
theorem left_reset (h : At w r g tv R) : Left r g tv ⟨R.f, R.n, ⟨[], R.S.first, R.S.last, 0⟩, R.top, R.down⟩ w ((w.setCell ⟨r, 3, none⟩ (.slice none 0 0)).setCell ⟨r, 7, none⟩ (.int .i64 0)) :=
  ⟨.slice none 0 0, ⟨(h.blk.setCell 3 _).setCell 7 _, World.ownsRow_nil _ _ _ _⟩, ((Keeps.refl (fun j => j = r) w).setCell r 3 _ (.inl rfl)).setCell r 7 _ (.inl rfl) |>.mono fun j hj => .inl (.inl hj), fun j hj => by
    rcases hj with rfl | hj
    · exact .inl (.inl rfl)
    · simp [Value.ownBlock] at hj⟩
end
section
variable {U T : Nat → Prop} {w w' w'' : World} {r g : Nat} {x x' : Dr} {R R' : Rm}
theorem Both.row' (h : Both U w r g x R) (k : ∀ tv, At w r g tv R → Left r g tv R' w w') : Past U r g x R' w w' := by
  obtain ⟨tv, h1, h2, h3⟩ := h
  exact Both.row h1 h2 h3 (k tv h2)
theorem Past.row (h : Past U r g x R w w') (k : ∀ tv, At w' r g tv R → Left r g tv R' w' w'') : Past U r g x R' w w'' := h.trans (h.1.row' k)
theorem Past.later (h : Past U r g x R w w') (k : Below w'.heap.size w' w'') : Past U r g x R w w'' := h.trans (Past.refl h.1 k)
theorem Past.drew (h : Past U r g x R w w') : Past U r g x R w w'.drew := h.later (Below.refl _ _).drew
/-- The blocks may be taken as those that lie there. -/
theorem past_lt {P : (Nat → Prop) → Prop} (hP : ∀ U V : Nat → Prop, (∀ j, U j → V j) → P U → P V) (h : P fun j => U j ∧ j < w.heap.size) : P U := hP _ _ (fun _ h => h.1) h
theorem Past.mono (h : Past U r g x R w w') (hU : ∀ j, U j → T j) : Past T r g x R w w' := ⟨h.1.mono fun j hj => hj.imp (hU j) id, h.2.mono fun j hj => .inl (hU j hj)⟩
end
def PtRes (U : Nat → Prop) (r g : Nat) (M : Rm × Dr × Int) (w : World) (e : Ending) (w' : World) : Prop := e = .returned (.int .i64 M.2.2) ∧ Past U r g M.2.1 M.1 w w'
theorem drv_ok {x : Dr} (hx : x.Ok) {q : Nat} {B : List Sec} (hB : ∀ b ∈ B, b.length = 64) (hq : q + B.length ≤ x.D.length) : (drv x q B).Ok := by
  refine ⟨hx.n1, hx.n2, hx.d, fun s hs => ?_, fun k hk => ?_⟩
  · rcases List.mem_append.1 hs with hs | hs
    · exact hx.p s hs
    · obtain ⟨h1, h2, h3⟩ := ws_mem hs
      exact ⟨by show s.1 < x.D.length; omega, hB _ h3⟩
  · have hk' : rest x.F B.length = some k := hk
    unfold rest at hk'
    cases hF : x.F with
    | none => rw [hF] at hk'; cases hk'
    | some m => rw [hF] at hk'; cases hk'; have := hx.f m hF; omega
theorem take_succ' (B : List Sec) (i : Nat) (h : i < B.length) : B.take (i + 1) = B.take i ++ [B[i]] := List.take_succ_eq_append_getElem h
set_option maxRecDepth 100000 in
set_option maxHeartbeats 4000000 in
theorem put_down (U : Nat → Prop) (r g : Nat) (x : Dr) (R : Rm) (w : World) (h : Both U w r g x R) (hn : 0 < R.n) (p n : Nat) (t : ByteArray) (hd : R.down = true) :
    Calls Tryd.prog 41 #[.pointer (some ⟨r, 0, none⟩), .int .i64 (p : Int), .int .u64 (n : Int), .string t] w fun e w' => e = .returned (.int .i64 30) ∧ Past U r g x R w w' := by
  have H := Lib.hid h
  obtain ⟨tv, h1, h2, h3⟩ := h
  have KI := Lib.hid (is_c r w R.n h2.c2 hn)
  have c8 := h2.c8
  have c6 := h2.c6
  have c2 := h2.c2
  clear h1 h2 h3
  rw [hd] at c8
  go_enter Tryd.func41, Tryd.ntmps41
  go_wp2_with fail
  refine KI.out.mono ?_
  rintro e w' ⟨rfl, rfl⟩
  go_wp2_with fail
  go_ret
  exact ⟨rfl, Past.refl H.out (Below.refl _ _)⟩
set_option maxRecDepth 100000 in
set_option maxHeartbeats 4000000 in
theorem put_low (U : Nat → Prop) (r g : Nat) (x : Dr) (R : Rm) (w : World) (h : Both U w r g x R) (hn : 0 < R.n) (p n : Nat) (t : ByteArray) (hd : R.down = false) (ht2 : n ≤ R.top) :
    Calls Tryd.prog 41 #[.pointer (some ⟨r, 0, none⟩), .int .i64 (p : Int), .int .u64 (n : Int), .string t] w fun e w' => e = .returned (.int .i64 2) ∧ Past U r g x R w w' := by
  have H := Lib.hid h
  obtain ⟨tv, h1, h2, h3⟩ := h
  have KI := Lib.hid (is_c r w R.n h2.c2 hn)
  have c8 := h2.c8
  have c6 := h2.c6
  have c2 := h2.c2
  clear h1 h2 h3
  rw [hd] at c8
  have q1 : (n : Int) ≤ (R.top : Int) := by omega
  clear ht2
  go_enter Tryd.func41, Tryd.ntmps41
  go_wp2_with fail
  refine KI.out.mono ?_
  rintro e w' ⟨rfl, rfl⟩
  go_wp2_with fail
  go_ret
  exact ⟨rfl, Past.refl H.out (Below.refl _ _)⟩
set_option maxRecDepth 100000 in
set_option maxHeartbeats 4000000 in
theorem put_long (U : Nat → Prop) (r g : Nat) (x : Dr) (R : Rm) (w : World) (h : Both U w r g x R) (hn : 0 < R.n) (p n : Nat) (t : ByteArray) (ht : t.size ≤ 9223372036854775807) (hn9 : n < 18446744073709551616) (hd : R.down = false) (ht2 : R.top < n) (hl : 98304 < t.size) :
    Calls Tryd.prog 41 #[.pointer (some ⟨r, 0, none⟩), .int .i64 (p : Int), .int .u64 (n : Int), .string t] w fun e w' => e = .returned (.int .i64 3) ∧ Past U r g x R w w' := by
  have H := Lib.hid h
  obtain ⟨tv, h1, h2, h3⟩ := h
  have KI := Lib.hid (is_c r w R.n h2.c2 hn)
  have c8 := h2.c8
  have c6 := h2.c6
  have c2 := h2.c2
  clear h1 h2 h3
  rw [hd] at c8
  have q1 : (R.top : Int) < (n : Int) := by omega
  have KP := Lib.hid (put_no n t w hn9 ht 3 (.inr ⟨by omega, hl, rfl⟩))
  clear ht hn9 ht2 hl
  go_enter Tryd.func41, Tryd.ntmps41
  go_wp2_with fail
  refine KI.out.mono ?_
  rintro e w' ⟨rfl, rfl⟩
  go_wp2_with fail
  refine KP.out.mono ?_
  rintro e w1 ⟨rfl, hb⟩
  have HB := Lib.hid hb
  clear hb
  go_wp2_with fail
  go_ret
  exact ⟨rfl, Past.refl H.out HB.out⟩
set_option maxRecDepth 100000 in
set_option maxHeartbeats 4000000 in
theorem put_full (U : Nat → Prop) (r g : Nat) (x : Dr) (R : Rm) (w : World) (h : Both U w r g x R) (hn : 0 < R.n) (p n : Nat) (t : ByteArray) (hn9 : n < 18446744073709551616) (hd : R.down = false) (ht2 : R.top < n) (hl : t.size ≤ 98304) (hR : R.n ≤ 4096) (hpn : p ≤ R.n) (hfl : R.n < p + Sf.many t.data.toList.length) :
    Calls Tryd.prog 41 #[.pointer (some ⟨r, 0, none⟩), .int .i64 (p : Int), .int .u64 (n : Int), .string t] w fun e w' => e = .returned (.int .i64 6) ∧ Past U r g x R w w' := by
  have H := Lib.hid h
  obtain ⟨tv, h1, h2, h3⟩ := h
  have KI := Lib.hid (is_c r w R.n h2.c2 hn)
  have c8 := h2.c8
  have c6 := h2.c6
  have c2 := h2.c2
  clear h1 h2 h3
  rw [hd] at c8
  have q1 : (R.top : Int) < (n : Int) := by omega
  have KP := Lib.hid (put_ok n t w (by omega) hn9 hl)
  have hsl := Sf.sheaf_len n t.data.toList
  have hs64 : ∀ b ∈ Sf.sheaf n t.data.toList, b.length = 64 := fun b hb => (Sf.sheaf_leaf hn9 hb).1
  have hmp := Sf.many_pos t.data.toList.length
  obtain ⟨B, hB⟩ : ∃ B, Sf.sheaf n t.data.toList = B := ⟨_, rfl⟩
  have HPB : Hid (∀ e w', PutOk n t.data.toList w e w' → ∃ b cap, e = .returned (.tuple #[.slice (some ⟨b, 0, none⟩) B.length cap, .int .i64 0]) ∧ w'.ownsRow w.heap.size TStr 1 (.slice (some ⟨b, 0, none⟩) B.length cap) B.length (B.map sv) ∧ Below w.heap.size w w') := by
    subst hB
    exact fun e w' h => h
  have q8 : (R.n : Int) ≤ 4096 := by omega
  have q2 : (0 : Int) ≤ (p : Int) := by omega
  have q3 : (p : Int) ≤ (R.n : Int) := by omega
  rw [hB] at hsl hs64
  have q4 : (R.n : Int) - (p : Int) < (B.length : Int) := by omega
  clear hn9 ht2 hl hfl hB hsl hs64 hmp
  go_enter Tryd.func41, Tryd.ntmps41
  go_wp2_with fail
  refine KI.out.mono ?_
  rintro e w' ⟨rfl, rfl⟩
  go_wp2_with fail
  refine KP.out.mono ?_
  rintro e w1 he
  obtain ⟨b, cap, rfl, hown, hb⟩ := HPB.out _ _ he
  have HB := Lib.hid hb
  have c2' := hb.cell (p := ⟨r, 2, none⟩) (by have := H.out.choose_spec.2.1.blk.lt; exact this)
  rw [c2] at c2'
  clear hb hown he
  go_wp2_with fail
  go_ret
  exact ⟨rfl, Past.refl H.out HB.out⟩
/-- Where a put stands, so many writes through. -/
theorem put_step {U : Nat → Prop} {r g : Nat} {x : Dr} {R : Rm} {w1 wr : World} {B : List Sec} {q i : Nat} (hx : x.Ok) (hP : x.P.length ≤ 95000) (hB : ∀ b ∈ B, b.length = 64) (hq : q + B.length ≤ x.D.length) (hi : i < B.length) (hlt : i < through x.F B.length)
    (h : Past U r g (drv x q (B.take i)) R w1 wr) : Calls Tryd.prog 55 #[.pointer (some ⟨g, 0, Option.none⟩), .int .i64 ((q + i : Nat) : Int), .string ⟨B[i].toArray⟩] wr fun e w' => e = .returned (.int .i64 0) ∧ Past U r g (drv x q (B.take (i + 1))) R w1 w' := by
  have hl : (B.take i).length = i := by simp; omega
  have hb := hB _ (List.getElem_mem hi)
  have h4 := hx.n2
  have hw := drv_write x q (B.take i) B[i] hb (by omega) (by rw [hl]; exact burn_go hlt)
  rw [hl] at hw
  refine (h.1.write (drv_ok hx (fun b hb => hB b (List.mem_of_mem_take hb)) (by omega)) (by unfold drv; simp [ws_len, hl]; omega) _ ⟨B[i].toArray⟩ (by show B[i].length ≤ _; omega) 0 hw).mono fun e w' hr => ⟨hr.1, ?_⟩
  rw [take_succ' B i hi]
  exact h.trans hr.2
theorem put_halt {U : Nat → Prop} {r g : Nat} {x : Dr} {R : Rm} {w1 wr : World} {B : List Sec} {q i : Nat} (hx : x.Ok) (hP : x.P.length ≤ 95000) (hB : ∀ b ∈ B, b.length = 64) (hq : q + B.length ≤ x.D.length) (hi : i < B.length) (hlt : i = through x.F B.length)
    (h : Past U r g (drv x q (B.take i)) R w1 wr) : Calls Tryd.prog 55 #[.pointer (some ⟨g, 0, Option.none⟩), .int .i64 ((q + i : Nat) : Int), .string ⟨B[i].toArray⟩] wr fun e w' => e = .returned (.int .i64 30) ∧ Past U r g (drv x q (B.take i)) R w1 w' := by
  have hl : (B.take i).length = i := by simp; omega
  have hb := hB _ (List.getElem_mem hi)
  have h4 := hx.n2
  have hw := drv_stop x q (B.take i) B[i] hb (by omega) (by rw [hl]; exact (burn_stop hlt hi).1)
  rw [hl] at hw
  refine (h.1.write (drv_ok hx (fun b hb => hB b (List.mem_of_mem_take hb)) (by omega)) (by unfold drv; simp [ws_len, hl]; omega) _ ⟨B[i].toArray⟩ (by show B[i].length ≤ _; omega) 30 hw).mono fun e w' hr => ⟨hr.1, ?_⟩
  exact h.trans hr.2
structure Here (w : World) (r g : Nat) (R : Rm) : Prop where
  c0 : w.cell? ⟨r, 0, none⟩ = some (.pointer (some ⟨g, 0, none⟩))
  c1 : w.cell? ⟨r, 1, none⟩ = some (.int .i64 (R.f : Int))
theorem Both.here {U : Nat → Prop} {w : World} {r g : Nat} {x : Dr} {R : Rm} (h : Both U w r g x R) : Here w r g R := by
  obtain ⟨tv, _, h2, _⟩ := h
  exact ⟨h2.c0, h2.c1⟩
set_option maxRecDepth 100000 in
set_option maxHeartbeats 8000000 in
theorem put_go (U : Nat → Prop) (r g : Nat) (x : Dr) (R : Rm) (w : World) (h : Both U w r g x R) (hU : ∀ j, U j → j < w.heap.size) (hx : x.Ok) (hP : x.P.length ≤ 95000) (hn : 0 < R.n) (hR : R.n ≤ 4096) (hf : R.f + R.n ≤ x.D.length) (p n : Nat) (t : ByteArray) (hn9 : n < 18446744073709551616) (hd : R.down = false) (ht2 : R.top < n) (hl : t.size ≤ 98304)
    (hfl : p + Sf.many t.data.toList.length ≤ R.n) (hT : R.S.T.length ≤ 90000) (he : R.S.e ≤ R.n) :
    Calls Tryd.prog 41 #[.pointer (some ⟨r, 0, none⟩), .int .i64 (p : Int), .int .u64 (n : Int), .string t] w (PtRes U r g (putM R x p n t.data.toList) w) := by
  have HM : Hid (putM R x p n t.data.toList = if through x.F (Sf.many t.data.toList.length) = Sf.many t.data.toList.length then (⟨R.f, R.n, (if p = 0 then Ld.zero else R.S).took n t.data.toList (Sf.many t.data.toList.length), n, false⟩, drv x (R.f + p) (Sf.sheaf n t.data.toList), 0)
      else (⟨R.f, R.n, R.S, R.top, true⟩, drv x (R.f + p) ((Sf.sheaf n t.data.toList).take (through x.F (Sf.many t.data.toList.length))), 30)) := by
    show _ = _
    unfold putM
    rw [if_neg (by simp [hd]), if_neg (by omega), if_neg (by simp; omega), if_neg (by omega)]
  have H := Lib.hid h
  have HU := Lib.hid hU
  obtain ⟨tv, h1, h2, h3⟩ := h
  have KI := Lib.hid (is_c r w R.n h2.c2 hn)
  have c8 := h2.c8
  have c6 := h2.c6
  have c2 := h2.c2
  have q1 : (R.top : Int) < (n : Int) := by omega
  clear h1 h2 h3 hU
  rw [hd] at c8
  have KP := Lib.hid (put_ok n t w (by omega) hn9 hl)
  have hsl := Sf.sheaf_len n t.data.toList
  have hs64 : ∀ b ∈ Sf.sheaf n t.data.toList, b.length = 64 := fun b hb => (Sf.sheaf_leaf hn9 hb).1
  have hmp := Sf.many_pos t.data.toList.length
  have hpn : p ≤ R.n := by omega
  obtain ⟨B, hB⟩ : ∃ B, Sf.sheaf n t.data.toList = B := ⟨_, rfl⟩
  have HPB : Hid (∀ e w', PutOk n t.data.toList w e w' → ∃ b cap, e = .returned (.tuple #[.slice (some ⟨b, 0, none⟩) B.length cap, .int .i64 0]) ∧ w'.ownsRow w.heap.size TStr 1 (.slice (some ⟨b, 0, none⟩) B.length cap) B.length (B.map sv) ∧ Below w.heap.size w w') := by
    subst hB
    exact fun e w' h => h
  have q8 : (R.n : Int) ≤ 4096 := by omega
  have q2 : (0 : Int) ≤ (p : Int) := by omega
  have q3 : (p : Int) ≤ (R.n : Int) := by omega
  have q4 : (B.length : Int) ≤ (R.n : Int) - (p : Int) := by rw [← hB]; omega
  rw [hB] at hsl hs64 HM
  rw [← hsl] at HM
  have H64 := Lib.hid hs64
  have HSL := Lib.hid hsl
  have hB1 : 1 ≤ B.length := by omega
  have hB9 : B.length ≤ 4096 := by omega
  have hfq : R.f + p + B.length ≤ x.D.length := by omega
  have hfi : (R.f : Int) + (p : Int) + (B.length : Int) ≤ 4096 := by have := hx.n2; omega
  have hfi0 : (0 : Int) ≤ (R.f : Int) := by omega
  have HX := Lib.hid hx
  have htl := through_le x.F B.length
  have d9 : decide ((R.n : Int) - (p : Int) < (B.length : Int)) = false := decide_eq_false (by omega)
  clear hl hB hsl hs64 hmp hx hfl
  go_enter Tryd.func41, Tryd.ntmps41
  go_wp2_with fail
  refine KI.out.mono ?_
  rintro e w' ⟨rfl, rfl⟩
  go_wp2_with fail
  refine KP.out.mono ?_
  rintro e w1 he'
  obtain ⟨b, cap, rfl, hown, hb⟩ := HPB.out _ _ he'
  have P1 : Hid (Past U r g (drv x (R.f + p) (B.take 0)) R w1 w1) := by rw [List.take_zero, drv_nil]; exact Past.refl (H.out.later hb) (Below.refl _ _)
  have hrl : r < w.heap.size := H.out.choose_spec.2.1.blk.lt
  have c2' := hb.cell (p := ⟨r, 2, none⟩) hrl
  rw [c2] at c2'
  have hbw : w.heap.size ≤ b := (hown.lt b rfl).1
  have hbU : ¬ U b := fun h => by have := HU.out b h; omega
  have HO := Lib.hid hown
  have HB := Lib.hid hb
  have HBU := Lib.hid hbU
  clear hb hown he' HPB KP KI c2 c6 c8 hbU
  go_wp2_with fail
  go_loopg [50] B.length (fun kx s50 wr => ∃ i : Nat, s50 = .int .i64 (i : Int) ∧ i ≤ through x.F B.length ∧ Hid (Past U r g (drv x (R.f + p) (B.take i)) R w1 wr) ∧ B.length ≤ i + kx)
  case atStart => exact ⟨0, rfl, Nat.zero_le _, P1, by omega⟩
  case round =>
    obtain ⟨i, rfl, hit, HP, hkx⟩ := hrel
    clear P1 c2'
    by_cases hlt : i < B.length
    · have hcell : wr.cell? ⟨b, i, none⟩ = some (.string ⟨B[i].toArray⟩) := by
        rw [World.cell?_of_block (HP.out.2.block b (HO.out.lt b rfl).2 HBU.out)]
        exact (own_cell HO.out).2 i _ (by simp [sv, List.getElem?_eq_getElem hlt])
      have i0 : (0 : Int) ≤ (i : Int) := by omega
      have i1 : (i : Int) < (B.length : Int) := by omega
      have e1 : IntKind.i64.wrap ((R.f : Int) + (p : Int)) = (R.f : Int) + (p : Int) := IntWalk.i64_in _ (by omega)
      have e2 : IntKind.i64.wrap ((R.f : Int) + (p : Int) + (i : Int)) = (R.f : Int) + (p : Int) + (i : Int) := IntWalk.i64_in _ (by omega)
      have E1 := Lib.hid e1
      have E2 := Lib.hid e2
      clear e1 e2
      have HC : Hid (∀ u : World, Below wr.heap.size wr u → Here u r g R) := fun u hu => (HP.out.later hu).1.here
      have hh := HP.out.1.here
      have c0 := hh.c0
      have c1 := hh.c1
      clear hh
      obtain ⟨y, hy⟩ : ∃ y, y = (⟨B[i].toArray⟩ : ByteArray) := ⟨_, rfl⟩
      rw [← hy] at hcell
      by_cases hgo : i < through x.F B.length
      · have KW : Hid (∀ u : World, Past U r g (drv x (R.f + p) (B.take i)) R w1 u → Calls Tryd.prog 55 #[.pointer (some ⟨g, 0, Option.none⟩), .int .i64 ((R.f : Int) + (p : Int) + (i : Int)), .string y] u fun e w' => e = .returned (.int .i64 0) ∧ Past U r g (drv x (R.f + p) (B.take (i + 1))) R w1 w') := fun u hu => by
          have := put_step HX.out hP H64.out hfq hlt hgo hu
          rw [show ((R.f + p + i : Nat) : Int) = (R.f : Int) + (p : Int) + (i : Int) by omega, ← hy] at this
          exact this
        clear hy
        go_upto_region 15 with (fail)
        have e1 := E1.out
        have e2 := E2.out
        go_region_held3 (fun w' => w'.cell? ⟨r, 0, none⟩ = some (.pointer (some ⟨g, 0, none⟩)) ∧ w'.cell? ⟨r, 1, none⟩ = some (.int .i64 (R.f : Int))) (go_keep) ((go_at_call 55; refine (KW.out _ (HP.out.drew)).mono ?_; rintro e w' ⟨rfl, hp'⟩; have HP2 := Lib.hid hp'; have hh := HP2.out.1.here; have c0' := hh.c0; have c1' := hh.c1; clear hp' hh))
        clear c0 c1 hcell e1 e2
        go_wp2_with fail
        go_roundg (B.length - (i + 1))
        case measure => omega
        case rel => exact ⟨i + 1, by simp, hgo, HP2, by omega⟩
      · have hie : i = through x.F B.length := by omega
        have KW : Hid (∀ u : World, Past U r g (drv x (R.f + p) (B.take i)) R w1 u → Calls Tryd.prog 55 #[.pointer (some ⟨g, 0, Option.none⟩), .int .i64 ((R.f : Int) + (p : Int) + (i : Int)), .string y] u fun e w' => e = .returned (.int .i64 30) ∧ Past U r g (drv x (R.f + p) (B.take i)) R w1 w') := fun u hu => by
          have := put_halt HX.out hP H64.out hfq hlt hie hu
          rw [show ((R.f + p + i : Nat) : Int) = (R.f : Int) + (p : Int) + (i : Int) by omega, ← hy] at this
          exact this
        have HIE := Lib.hid hie
        clear hy hie
        go_upto_region 15 with (fail)
        have e1 := E1.out
        have e2 := E2.out
        go_region_held3 (fun w' => w'.cell? ⟨r, 0, none⟩ = some (.pointer (some ⟨g, 0, none⟩)) ∧ w'.cell? ⟨r, 1, none⟩ = some (.int .i64 (R.f : Int))) (go_keep) ((go_at_call 55; refine (KW.out _ (HP.out.drew)).mono ?_; rintro e w' ⟨rfl, hp'⟩; have HP2 := Lib.hid hp'; have hh := HP2.out.1.here; have c0' := hh.c0; have c1' := hh.c1; clear hp' hh))
        clear c0 c1 hcell e1 e2
        obtain ⟨tv2, g1, g2, g3⟩ := HP2.out.1
        have c8 := g2.c8
        have f8 := g2.blk.frozen 8
        clear g1 g2 g3
        go_wp2_with fail
        go_ret
        have P3 := (Past.refl H.out HB.out).trans ((HP2.out.row fun tv h => left_down h).mono fun j hj => .inl hj)
        rw [HM.out, if_neg (by have := HIE.out; omega)]
        rw [HIE.out] at P3
        exact ⟨rfl, P3⟩
    · obtain rfl : i = B.length := by omega
      have HTH : Hid (through x.F B.length = B.length) := by show _ = _; omega
      have HP0 : Hid (Past U r g (drv x (R.f + p) B) R w1 wr) := by have := HP.out; rwa [List.take_length] at this
      clear hkx hlt HP
      have hk9 : R.S.e + B.length ≤ 1000000 := by omega
      by_cases hp0 : p = 0
      · have HP00 := Lib.hid hp0
        have z0 : ((p : Int) == 0) = true := beq_iff_eq.2 (by omega)
        obtain ⟨tv2, g1, g2, g3⟩ := HP0.out.1
        have c3 := g2.c3
        have f3 := g2.blk.frozen 3
        have c7 := g2.c7
        have f7 := g2.blk.frozen 7
        have HP1 := Lib.hid (HP0.out.row fun tv h => left_reset h)
        have KT : Hid (Calls Tryd.prog 47 #[.pointer (some ⟨r, 0, none⟩), .int .u64 (n : Int), .string t, .int .i64 (B.length : Int)] ((wr.setCell ⟨r, 3, none⟩ (.slice none 0 0)).setCell ⟨r, 7, none⟩ (.int .i64 0)) fun e w' => e = .returned (.tuple #[]) ∧ Past U r g (drv x (R.f + p) B) ⟨R.f, R.n, Ld.zero.took n t.data.toList B.length, R.top, R.down⟩ w1 w') := by
          obtain ⟨tv3, k1, k2, k3⟩ := HP1.out.1
          refine (took_c r g tv3 _ n B.length t _ k2 (by show 0 ≤ _; omega) (by show 0 + _ ≤ _; omega)).mono fun e w' hr => ⟨hr.1, ?_⟩
          have := HP1.out.trans (Both.row k1 k2 k3 hr.2)
          exact this
        clear g1 g2 g3 hp0
        go_wp2_with fail
        refine KT.out.mono ?_
        rintro e w4 ⟨rfl, h4⟩
        have HP4 := Lib.hid h4
        obtain ⟨tv5, g1, g2, g3⟩ := h4.1
        have c6 := g2.c6
        have f6 := g2.blk.frozen 6
        clear h4 g1 g2 g3 c3 f3 c7 f7
        go_wp2_with fail
        go_ret
        have P3 := (Past.refl H.out HB.out).trans ((HP4.out.row fun tv h => left_top h n).mono fun j hj => .inl hj)
        rw [HM.out, if_pos HTH.out, if_pos HP00.out]
        simp only [hd] at P3
        exact ⟨rfl, P3⟩
      · have z0 : ((p : Int) == 0) = false := beq_eq_false_iff_ne.2 (by omega)
        have HP00 := Lib.hid hp0
        have KT : Hid (Calls Tryd.prog 47 #[.pointer (some ⟨r, 0, none⟩), .int .u64 (n : Int), .string t, .int .i64 (B.length : Int)] wr fun e w' => e = .returned (.tuple #[]) ∧ Past U r g (drv x (R.f + p) B) ⟨R.f, R.n, R.S.took n t.data.toList B.length, R.top, R.down⟩ w1 w') := by
          obtain ⟨tv3, k1, k2, k3⟩ := HP0.out.1
          refine (took_c r g tv3 _ n B.length t _ k2 (by omega) (by omega)).mono fun e w' hr => ⟨hr.1, ?_⟩
          have := HP0.out.trans (Both.row k1 k2 k3 hr.2)
          exact this
        clear hp0
        go_wp2_with fail
        refine KT.out.mono ?_
        rintro e w4 ⟨rfl, h4⟩
        have HP4 := Lib.hid h4
        obtain ⟨tv5, g1, g2, g3⟩ := h4.1
        have c6 := g2.c6
        have f6 := g2.blk.frozen 6
        clear h4 g1 g2 g3
        go_wp2_with fail
        go_ret
        have P3 := (Past.refl H.out HB.out).trans ((HP4.out.row fun tv h => left_top h n).mono fun j hj => .inl hj)
        rw [HM.out, if_pos HTH.out, if_neg HP00.out]
        simp only [hd] at P3
        exact ⟨rfl, P3⟩
end Go.Proofs.YtjlncjabiofklaaDoor.Rk
