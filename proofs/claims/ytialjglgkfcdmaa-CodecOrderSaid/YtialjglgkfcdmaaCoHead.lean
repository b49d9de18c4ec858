/- Package codec: the calls whose answers the document fixes. -/
import Derived.Test.YtialjglgkfcdmaaCoWhole
namespace Go.Proofs.Ytialjglgkfcdmaa.Or
open Go.RowKit Cm
def S0 : Sch := ⟨⟨#[116]⟩, ⟨#[110, 115, 105]⟩, 1, [[1], [2, 1]]⟩
def S1 : Sch := ⟨⟨#[116]⟩, ⟨#[110, 115, 105]⟩, 4, []⟩
def fa : Fd := ⟨5, 0, ⟨#[]⟩⟩
def fb : Fd := ⟨0, 0, ⟨#[97, 98]⟩⟩
def fc : Fd := ⟨0, -1, ⟨#[]⟩⟩
def r0 : List Fd := [fa, fb, fc]
theorem small0 : SmallS S0 := ⟨by decide, by decide, by decide, by decide⟩
theorem small1 : SmallS S1 := ⟨by decide, by decide, by decide, by decide⟩
theorem ok_a : fa.ok := ⟨by decide, by decide, by decide, by decide⟩
theorem ok_b : fb.ok := ⟨by decide, by decide, by decide, by decide⟩
theorem ok_c : fc.ok := ⟨by decide, by decide, by decide, by decide⟩
theorem fine_r : Fine r0 := fun f hf => by
  simp only [r0, List.mem_cons, List.not_mem_nil, or_false] at hf
  rcases hf with rfl | rfl | rfl
  · exact ⟨ok_a, by decide⟩
  · exact ⟨ok_b, by decide⟩
  · exact ⟨ok_c, by decide⟩
theorem fine_c : Fine [fc] := fun f hf => by
  rw [List.mem_singleton] at hf
  subst hf
  exact ⟨ok_c, by decide⟩
theorem cbs : recAll [110, 115, 105] r0 = [5, 2, 97, 98, 1] := by
  show cb 110 fa ++ (cb 115 fb ++ (cb 105 fc ++ [])) = _
  rw [cb_n (by decide), cb_s (by decide), cb_i (by decide)]
  show Ta.num 5 ++ ((Ta.num 2 ++ [97, 98]) ++ (Ta.num 1 ++ [])) = _
  rw [Tal.num_small 5 (by decide), Tal.num_small 2 (by decide), Tal.num_small 1 (by decide)]
  rfl
theorem cput0 : cput [110, 115, 105] r0 = ([5, 2, 97, 98, 1], 0) := by
  rw [cput_ok (by decide) (by decide) (by decide) (by rw [cbs]; decide), cbs]
theorem cget0 : cget [110, 115, 105] [5, 2, 97, 98, 1] = (r0, 0) := cget_of_cput (fun f hf => ⟨(fine_r f hf).1, by have := (fine_r f hf).2; omega⟩) cput0
theorem cget1 : cget [110] [5, 5] = ([], 5) := cget_none (by decide) (by decide) (by decide +kernel)
theorem there1 : thereB S0 1 = true := by decide +kernel
theorem there0 : thereB S0 0 = true := by decide +kernel
theorem therem : thereB S0 (-1) = true := by decide +kernel
theorem there2 : thereB S0 2 = false := by decide +kernel
theorem chk0 : chkB S0 = true := by decide +kernel
theorem chk1 : chkB S1 = false := by decide +kernel
theorem rec0 : isRec S0 r0 := ⟨by decide, by decide⟩
theorem lets1 : lettersF S0 1 = [105, 115] := rfl
theorem e_a : enc 110 fa = [1, 5] := by
  rw [enc_n (by decide)]
  show numL 0 5 = _
  unfold numL
  rw [short_pos (by decide), show 5 / 256 = 0 by decide, short_zero]; rfl
theorem e_b : enc 115 fb = [97, 98, 0, 0] := by rw [enc_s (by decide)]; rfl
theorem e_c : enc 105 fc = [127] := by
  rw [enc_i (by decide), if_pos (by decide)]
  show (numL 128 0).map cpl = _
  unfold numL
  rw [short_zero]; rfl
theorem key0 : keyF S0 r0 = ([1, 5], 0) := by
  show putF [110] [fa] = _
  have e : encAll [110] [fa] = [1, 5] := by show enc 110 fa ++ [] = _; rw [e_a]; rfl
  rw [put_ok (by decide) (by decide) (by rw [e]; decide), e]
theorem own1 : ownF S0 1 r0 = ([127, 97, 98, 0, 0], 0) := by
  show putF [105, 115] [fc, fb] = _
  have e : encAll [105, 115] [fc, fb] = [127, 97, 98, 0, 0] := by show enc 105 fc ++ (enc 115 fb ++ []) = _; rw [e_b, e_c]; rfl
  rw [put_ok (by decide) (by decide) (by rw [e]; decide), e]
theorem own0 : ownF S0 0 r0 = ([97, 98, 0, 0], 0) := by
  show putF [115] [fb] = _
  have e : encAll [115] [fb] = [97, 98, 0, 0] := by show enc 115 fb ++ [] = _; rw [e_b]; rfl
  rw [put_ok (by decide) (by decide) (by rw [e]; decide), e]
theorem place1 : placeF S0 1 r0 = ([127, 97, 98, 0, 0, 1, 5], 0) := by
  rw [place_ok there1 rec0 (by rw [key0]) (by decide) (by rw [own1]), key0, own1]; rfl
theorem place0 : placeF S0 0 r0 = ([97, 98, 0, 0, 1, 5], 0) := by
  rw [place_ok there0 rec0 (by rw [key0]) (by decide) (by rw [own0]), key0, own0]; rfl
theorem placem : placeF S0 (-1) r0 = ([1, 5], 0) := by
  rw [place_key therem rec0 (.inr (by decide)), key0]
theorem begin1 : beginF S0 1 [fc] = ([127], 0) := by
  rw [begin_yes there1, lets1]
  have e : encAll [105, 115] [fc] = [127] := by show enc 105 fc ++ [] = _; rw [e_c]; rfl
  rw [put_ok (by decide) (by decide) (by rw [e]; decide), e]
theorem whole0 : wholeF S0 r0 = 0 := by
  refine whole_end chk0 (by rw [show S0.kinds.data.toList = [110, 115, 105] from rfl, cput0]) fun j hj => ?_
  have : S0.idx.length = 2 := rfl
  have hj3 : j = 0 ∨ j = 1 ∨ j = 2 := by omega
  rcases hj3 with rfl | rfl | rfl
  · show (placeF S0 (-1) r0).2 = 0; rw [placem]
  · show (placeF S0 0 r0).2 = 0; rw [place0]
  · show (placeF S0 1 r0).2 = 0; rw [place1]
def lw2 (w : World) : World := (w.alloc (.cells #[.int .i64 1] 3)).alloc (.cells #[.int .i64 2, .int .i64 1] 3)
def lw3 (w : World) : World := (lw2 w).alloc (.cells #[.slice (some ⟨w.heap.size, 0, none⟩) 1 1, .slice (some ⟨w.heap.size + 1, 0, none⟩) 2 2] 60)
theorem mat0 (w : World) : Mat (lw3 w) (some ⟨w.heap.size + 1 + 1, 0, none⟩) [[1], [2, 1]] := by
  intro j hj
  have h2 : (lw2 w).heap.size = w.heap.size + 1 + 1 := by simp [lw2]
  have hb : Below (lw2 w).heap.size (lw2 w) (lw3 w) := (Below.refl _ _).alloc (Nat.le_refl _) _
  have hlt : w.heap.size + 1 + 1 < (lw3 w).heap.size := by simp [lw3, lw2]
  have c1 : (lw2 w).cell? ⟨w.heap.size, 0, none⟩ = some (.int .i64 1) := by simp [lw2, go_sem]
  have c2 : (lw2 w).cell? ⟨w.heap.size + 1, 0, none⟩ = some (.int .i64 2) := by simp [lw2, go_sem]
  have c3 : (lw2 w).cell? ⟨w.heap.size + 1, 1, none⟩ = some (.int .i64 1) := by simp [lw2, go_sem]
  rcases j with _ | _ | j
  · refine ⟨_, 0, some ⟨w.heap.size, 0, none⟩, 1, rfl, hlt, ?_, Nat.le_refl _, ?_⟩
    · rw [← h2]; unfold lw3; rw [World.cell?_alloc_at _ _ _ _ rfl]; rfl
    · intro i hi
      have hi' : i < 1 := hi
      obtain rfl : i = 0 := by omega
      exact ⟨w.heap.size, 0, rfl, by omega, by rw [hb.cell (by rw [h2]; simp; omega)]; exact c1⟩
  · refine ⟨_, 0, some ⟨w.heap.size + 1, 0, none⟩, 2, rfl, hlt, ?_, Nat.le_refl _, ?_⟩
    · rw [← h2]; unfold lw3; rw [World.cell?_alloc_at _ _ _ _ rfl]; rfl
    · intro i hi
      have hi' : i < 2 := hi
      rcases i with _ | _ | i
      · exact ⟨w.heap.size + 1, 0, rfl, by omega, by rw [hb.cell (by rw [h2]; simp)]; exact c2⟩
      · exact ⟨w.heap.size + 1, 0, rfl, by omega, by rw [hb.cell (by rw [h2]; simp)]; exact c3⟩
      · omega
  · have : j + 1 + 1 < 2 := hj
    omega
def lw5 (w : World) : World := ((lw3 w).alloc (.cells #[.string ⟨#[116]⟩, .string ⟨#[110, 115, 105]⟩, .int .i64 1, .slice (some ⟨w.heap.size + 1 + 1, 0, none⟩) 2 2] 40)).alloc (.cells #[.int .u64 5, .int .i64 0, .string ⟨#[]⟩, .int .u64 0, .int .i64 0, .string ⟨#[97, 98]⟩, .int .u64 0, .int .i64 (-1), .string ⟨#[]⟩] 59)
theorem below_lw3 (w : World) : Below w.heap.size w (lw3 w) := (((Below.refl _ w).alloc (Nat.le_refl _) _).alloc (by simp) _).alloc (by simp; omega) _
theorem sb0 (w : World) : Sb (w.heap.size + 1 + 1 + 1) S0 (some ⟨w.heap.size + 1 + 1, 0, none⟩) 2 w (lw5 w) := by
  have h := sb_new (lw3 w) S0 (some ⟨w.heap.size + 1 + 1, 0, none⟩) 2 (mat0 w) 40
  have e : (lw3 w).heap.size = w.heap.size + 1 + 1 + 1 := by simp [lw3, lw2]
  rw [e] at h
  have h2 := h.later ((Below.refl _ _).alloc (Nat.le_refl _) (.cells #[.int .u64 5, .int .i64 0, .string ⟨#[]⟩, .int .u64 0, .int .i64 0, .string ⟨#[97, 98]⟩, .int .u64 0, .int .i64 (-1), .string ⟨#[]⟩] 59))
  exact { h2 with below := below_then (below_lw3 w) h2.below }
theorem fds_r (w : World) (t : TypeId) : Fds (w.alloc (.cells #[.int .u64 5, .int .i64 0, .string ⟨#[]⟩, .int .u64 0, .int .i64 0, .string ⟨#[97, 98]⟩, .int .u64 0, .int .i64 (-1), .string ⟨#[]⟩] t)) (some ⟨w.heap.size, 0, none⟩) r0 := by
  intro j hj
  refine ⟨w.heap.size, 0, rfl, by simp, ?_⟩
  rcases j with _ | _ | _ | j
  · refine ⟨?_, ?_, ?_⟩ <;> (rw [World.cell?_alloc_at _ _ _ _ rfl]; rfl)
  · refine ⟨?_, ?_, ?_⟩ <;> (rw [World.cell?_alloc_at _ _ _ _ rfl]; rfl)
  · refine ⟨?_, ?_, ?_⟩ <;> (rw [World.cell?_alloc_at _ _ _ _ rfl]; rfl)
  · have : r0.length = 3 := rfl
    omega
theorem fds_c (w : World) (t : TypeId) : Fds (w.alloc (.cells #[.int .u64 0, .int .i64 (-1), .string ⟨#[]⟩] t)) (some ⟨w.heap.size, 0, none⟩) [fc] := by
  intro j hj
  refine ⟨w.heap.size, 0, rfl, by simp, ?_⟩
  rcases j with _ | j
  · refine ⟨?_, ?_, ?_⟩ <;> (rw [World.cell?_alloc_at _ _ _ _ rfl]; rfl)
  · have : [fc].length = 1 := rfl
    omega
theorem fds_0 (w : World) : Fds (lw5 w) (some ⟨w.heap.size + 1 + 1 + 1 + 1, 0, none⟩) r0 := by
  have e : ((lw3 w).alloc (.cells #[.string ⟨#[116]⟩, .string ⟨#[110, 115, 105]⟩, .int .i64 1, .slice (some ⟨w.heap.size + 1 + 1, 0, none⟩) 2 2] 40)).heap.size = w.heap.size + 1 + 1 + 1 + 1 := by simp [lw3, lw2]
  rw [← e]
  exact fds_r _ _
def sv0 (a : Option Addr) (cap : Nat) : Value := .agg #[.string ⟨#[116]⟩, .string ⟨#[110, 115, 105]⟩, .int .i64 1, .slice a 2 cap]
theorem hcput (w : World) (a : Option Addr) (cap : Nat) (h : Fds w a r0) : Calls Try.prog 11 #[.string ⟨#[110, 115, 105]⟩, .slice a 3 cap] w fun e w' => e = .returned (.tuple #[.string ⟨#[5, 2, 97, 98, 1]⟩, .int .i64 0]) ∧ Below w.heap.size w w' := by
  have k := codput_c ⟨#[110, 115, 105]⟩ w a cap r0 h fine_r (by decide) (by decide)
  unfold CPutRes at k
  rw [show (⟨#[110, 115, 105]⟩ : ByteArray).data.toList = [110, 115, 105] from rfl, cput0] at k
  exact k
theorem hcget (w : World) : Calls Try.prog 13 #[.string ⟨#[110, 115, 105]⟩, .string ⟨#[5, 2, 97, 98, 1]⟩] w fun e w' => ∃ a cap, e = .returned (.tuple #[.slice a 3 cap, .int .i64 0]) ∧ Fds w' a r0 ∧ Below w.heap.size w w' := by
  have k := codget_c ⟨#[110, 115, 105]⟩ ⟨#[5, 2, 97, 98, 1]⟩ w (by decide) (by decide)
  unfold CGetRes at k
  rw [show (⟨#[110, 115, 105]⟩ : ByteArray).data.toList = [110, 115, 105] from rfl, show (⟨#[5, 2, 97, 98, 1]⟩ : ByteArray).data.toList = [5, 2, 97, 98, 1] from rfl, cget0] at k
  exact k
theorem hcget1 (w : World) : Calls Try.prog 13 #[.string ⟨#[110]⟩, .string ⟨#[5, 5]⟩] w fun e w' => ∃ a cap, e = .returned (.tuple #[.slice a 0 cap, .int .i64 5]) ∧ Below w.heap.size w w' := by
  have k := codget_c ⟨#[110]⟩ ⟨#[5, 5]⟩ w (by decide) (by decide)
  unfold CGetRes at k
  rw [show (⟨#[110]⟩ : ByteArray).data.toList = [110] from rfl, show (⟨#[5, 5]⟩ : ByteArray).data.toList = [5, 5] from rfl, cget1] at k
  refine k.mono ?_
  rintro e w' ⟨a, cap, rfl, _, hb⟩
  exact ⟨a, cap, rfl, hb⟩
theorem hlet1 (w : World) (a : Option Addr) (cap : Nat) (h : Mat w a S0.idx) : Calls Try.prog 17 #[sv0 a cap, .int .i64 1] w fun e w' => e = .returned (.tuple #[.string ⟨#[105, 115]⟩, .int .i64 0]) ∧ Below w.heap.size w w' :=
  (letters_c S0 1 w a cap h small0).mono fun _ _ ⟨_, h1, hb⟩ => ⟨h1 there1, hb⟩
theorem hlet2 (w : World) (a : Option Addr) (cap : Nat) (h : Mat w a S0.idx) : Calls Try.prog 17 #[sv0 a cap, .int .i64 2] w fun e w' => e = .returned (.tuple #[.string ⟨#[]⟩, .int .i64 2]) ∧ Below w.heap.size w w' :=
  (letters_c S0 2 w a cap h small0).mono fun _ _ ⟨h1, _, hb⟩ => ⟨h1 there2, hb⟩
theorem hplace (w : World) (a : Option Addr) (cap : Nat) (ag : Option Addr) (h : Mat w a S0.idx) (hr : Fds w ag r0) : Calls Try.prog 22 #[sv0 a cap, .int .i64 1, .slice ag 3 3] w fun e w' => e = .returned (.tuple #[.string ⟨#[127, 97, 98, 0, 0, 1, 5]⟩, .int .i64 0]) ∧ Below w.heap.size w w' := by
  have k := place_c S0 1 w a cap ag 3 r0 h hr (by decide) fine_r (by decide) small0
  unfold PlaceRes at k
  rw [place1] at k
  exact k
theorem hbegin (w : World) (a : Option Addr) (cap : Nat) (ag : Option Addr) (cg : Nat) (h : Mat w a S0.idx) (hr : Fds w ag [fc]) : Calls Try.prog 24 #[sv0 a cap, .int .i64 1, .slice ag 1 cg] w fun e w' => e = .returned (.tuple #[.string ⟨#[127]⟩, .int .i64 0]) ∧ Below w.heap.size w w' := by
  have k := begin_c S0 1 w a cap ag cg [fc] h hr fine_c (by decide) small0
  unfold BeginRes at k
  rw [begin1] at k
  exact k
theorem hwhole (w : World) (a : Option Addr) (cap : Nat) (ag : Option Addr) (h : Mat w a S0.idx) (hr : Fds w ag r0) : Calls Try.prog 26 #[sv0 a cap, .slice ag 3 3] w fun e w' => e = .returned (.int .i64 0) ∧ Below w.heap.size w w' := by
  have k := whole_c S0 w a cap ag 3 r0 h hr (by decide) fine_r (by decide) small0
  rw [whole0] at k
  exact k
theorem hcheck (w : World) : Calls Try.prog 19 #[.agg #[.string ⟨#[116]⟩, .string ⟨#[110, 115, 105]⟩, .int .i64 4, .slice none 0 0]] w fun e w' => e = .returned (.int .i64 2) ∧ Below w.heap.size w w' := by
  have k := check_c S1 w none 0 (fun j hj => by simp [S1] at hj) small1
  rw [chkE_no chk1] at k
  exact k
theorem hcsame (w : World) (a b : Option Addr) (ca cb : Nat) (hL : Fds w a r0) (hM : Fds w b r0) : Calls Try.prog 15 #[.slice a 3 ca, .slice b 3 cb] w fun e w' => e = .returned (.bool true) ∧ Below w.heap.size w w' := by
  have k := same_c w a b ca cb r0 r0 hL hM (by decide) (by decide)
  rw [decide_eq_true rfl] at k
  exact k
set_option maxRecDepth 100000 in
set_option maxHeartbeats 6400000 in
theorem codhead_c (w : World) : Calls Try.prog 10 #[] w fun e w' => e = .returned (.bool true) ∧ Below w.heap.size w w' := by
  go_enter Try.func10, Try.ntmps10
  go_wp2_with fail
  have S1 := Lib.hid (sb0 w)
  have R1 := Lib.hid (fds_0 w)
  have e1 : Calls Try.prog 11 #[.string ⟨#[110, 115, 105]⟩, .slice (some ⟨w.heap.size + 1 + 1 + 1 + 1, 0, none⟩) 3 3] (lw5 w) _ := hcput (lw5 w) _ 3 R1.out
  unfold lw5 lw3 lw2 at S1 R1 e1
  obtain ⟨y0, y1, y2, y3, -, -, -⟩ := S1.out
  refine (e1).mono ?_
  rintro e w2 ⟨rfl, b2⟩
  have S2 := Lib.hid (S1.out.later b2)
  have R2 := Lib.hid (R1.out.later b2)
  clear b2 y0 y1 y2 y3
  obtain ⟨y0, y1, y2, y3, -, -, -⟩ := S2.out
  go_wp2_with fail
  refine (hcget _).mono ?_
  rintro e w3 ⟨a3, c3, rfl, g3, b3⟩
  have S3 := Lib.hid (S2.out.later b3)
  have R3 := Lib.hid (R2.out.later b3)
  have G3 := Lib.hid g3
  clear g3
  clear b3 y0 y1 y2 y3
  obtain ⟨y0, y1, y2, y3, -, -, -⟩ := S3.out
  go_wp2_with fail
  refine (hlet1 _ _ _ S3.out.mat).mono ?_
  rintro e w4 ⟨rfl, b4⟩
  have S4 := Lib.hid (S3.out.later b4)
  have R4 := Lib.hid (R3.out.later b4)
  have G4 := Lib.hid (G3.out.later b4)
  clear b4 y0 y1 y2 y3
  obtain ⟨y0, y1, y2, y3, -, -, -⟩ := S4.out
  go_wp2_with fail
  refine (hlet2 _ _ _ S4.out.mat).mono ?_
  rintro e w5 ⟨rfl, b5⟩
  have S5 := Lib.hid (S4.out.later b5)
  have R5 := Lib.hid (R4.out.later b5)
  have G5 := Lib.hid (G4.out.later b5)
  clear b5 y0 y1 y2 y3
  obtain ⟨y0, y1, y2, y3, -, -, -⟩ := S5.out
  go_wp2_with fail
  refine (hplace _ _ _ _ S5.out.mat R5.out).mono ?_
  rintro e w6 ⟨rfl, b6⟩
  have S6 := Lib.hid (S5.out.later b6)
  have R6 := Lib.hid (R5.out.later b6)
  have G6 := Lib.hid (G5.out.later b6)
  clear b6 y0 y1 y2 y3
  obtain ⟨y0, y1, y2, y3, -, -, -⟩ := S6.out
  go_wp2_with fail
  have F6 := fds_c w6 59
  have b6' := (Below.refl w6.heap.size w6).alloc (Nat.le_refl _) (.cells #[.int .u64 0, .int .i64 (-1), .string ⟨#[]⟩] 59)
  have S6' := S6.out.later b6'
  have R6' := R6.out.later b6'
  have G6' := G6.out.later b6'
  refine (hbegin _ _ _ _ _ S6'.mat F6).mono ?_
  rintro e w7 ⟨rfl, b7⟩
  have S7 := Lib.hid (S6'.later b7)
  have R7 := Lib.hid (R6'.later b7)
  have G7 := Lib.hid (G6'.later b7)
  clear b7 b6' S6' R6' G6' F6 y0 y1 y2 y3
  obtain ⟨y0, y1, y2, y3, -, -, -⟩ := S7.out
  go_wp2_with fail
  refine (hcget1 _).mono ?_
  rintro e w8 ⟨a8, c8, rfl, b8⟩
  have S8 := Lib.hid (S7.out.later b8)
  have R8 := Lib.hid (R7.out.later b8)
  have G8 := Lib.hid (G7.out.later b8)
  clear b8 y0 y1 y2 y3
  obtain ⟨y0, y1, y2, y3, -, -, -⟩ := S8.out
  go_wp2_with fail
  refine (hcsame _ _ _ _ _ G8.out R8.out).mono ?_
  rintro e w9 ⟨rfl, b9⟩
  have S9 := Lib.hid (S8.out.later b9)
  have R9 := Lib.hid (R8.out.later b9)
  clear b9 y0 y1 y2 y3
  obtain ⟨y0, y1, y2, y3, -, -, -⟩ := S9.out
  go_wp2_with fail
  refine (hcheck _).mono ?_
  rintro e w10 ⟨rfl, b10⟩
  have S10 := Lib.hid (S9.out.later b10)
  have R10 := Lib.hid (R9.out.later b10)
  clear b10 y0 y1 y2 y3
  obtain ⟨y0, y1, y2, y3, -, -, -⟩ := S10.out
  go_wp2_with fail
  refine (hwhole _ _ _ _ S10.out.mat R10.out).mono ?_
  rintro e w11 ⟨rfl, b11⟩
  have S11 := Lib.hid (S10.out.later b11)
  have R11 := Lib.hid (R10.out.later b11)
  clear b11 y0 y1 y2 y3
  obtain ⟨y0, y1, y2, y3, -, -, -⟩ := S11.out
  go_wp2_with fail
  go_ret
  exact ⟨rfl, S11.out.below⟩
end Go.Proofs.Ytialjglgkfcdmaa.Or
