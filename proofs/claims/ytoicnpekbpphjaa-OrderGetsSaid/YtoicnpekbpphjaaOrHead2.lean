/- Package order: the calls whose answers the document fixes. -/
import Derived.Test.YtoicnpekbpphjaaOrHead
namespace Go.Proofs.Ytoicnpekbpphjaa.Or
open Go.RowKit Cm
theorem then_below {a b c : World} (h : Below a.heap.size a b) (k : Below b.heap.size b c) : Below a.heap.size a c := h.trans (k.mono h.size)
def L0 : List Fd := [⟨258, 0, ⟨#[]⟩⟩, ⟨0, -1, ⟨#[]⟩⟩, ⟨0, 0, ⟨#[97, 0]⟩⟩]
def L1 : List Fd := [⟨0, -257, ⟨#[]⟩⟩]
theorem short_258 : shortL 258 = [1, 2] := by
  rw [short_pos (by decide), show 258 / 256 = 1 by decide, short_pos (by decide), show 1 / 256 = 0 by decide, short_zero]; rfl
theorem short_256 : shortL 256 = [1, 0] := by
  rw [short_pos (by decide), show 256 / 256 = 1 by decide, short_pos (by decide), show 1 / 256 = 0 by decide, short_zero]; rfl
theorem eF0 : enc 110 ⟨258, 0, ⟨#[]⟩⟩ = [2, 1, 2] := by
  rw [enc_n (by decide)]
  show numL 0 258 = _
  unfold numL
  rw [short_258]; rfl
theorem eF1 : enc 105 ⟨0, -1, ⟨#[]⟩⟩ = [127] := by
  rw [enc_i (by decide), if_pos (by decide)]
  show (numL 128 0).map cpl = _
  unfold numL
  rw [short_zero]; rfl
theorem eF2 : enc 115 ⟨0, 0, ⟨#[97, 0]⟩⟩ = [97, 0, 255, 0, 0] := by rw [enc_s (by decide)]; rfl
theorem eF3 : enc 105 ⟨0, -257, ⟨#[]⟩⟩ = [125, 254, 255] := by
  rw [enc_i (by decide), if_pos (by decide)]
  show (numL 128 256).map cpl = _
  unfold numL
  rw [short_256]; rfl
theorem all0 : encAll [110, 105, 115] L0 = [2, 1, 2, 127, 97, 0, 255, 0, 0] := by
  show enc 110 ⟨258, 0, ⟨#[]⟩⟩ ++ (enc 105 ⟨0, -1, ⟨#[]⟩⟩ ++ (enc 115 ⟨0, 0, ⟨#[97, 0]⟩⟩ ++ [])) = _
  rw [eF0, eF1, eF2]; rfl
theorem all1 : encAll [105] L1 = [125, 254, 255] := by
  show enc 105 ⟨0, -257, ⟨#[]⟩⟩ ++ [] = _
  rw [eF3]; rfl
theorem put0 : putF [110, 105, 115] L0 = ([2, 1, 2, 127, 97, 0, 255, 0, 0], 0) := by
  rw [put_ok (by decide) (by decide) (by rw [all0]; decide), all0]
theorem put1 : putF [105] L1 = ([125, 254, 255], 0) := by
  rw [put_ok (by decide) (by decide) (by rw [all1]; decide), all1]
theorem ok0 : ∀ f ∈ L0, f.ok := by
  intro f hf
  simp only [L0, List.mem_cons, List.not_mem_nil, or_false] at hf
  rcases hf with rfl | rfl | rfl <;> exact ⟨by decide, by decide, by decide, by decide⟩
theorem fine0 : Fine L0 := fun f hf => ⟨ok0 f hf, by
  simp only [L0, List.mem_cons, List.not_mem_nil, or_false] at hf
  rcases hf with rfl | rfl | rfl <;> decide⟩
theorem fine1 : Fine L1 := fun f hf => by
  simp only [L1, List.mem_cons, List.not_mem_nil, or_false] at hf
  subst hf
  exact ⟨⟨by decide, by decide, by decide, by decide⟩, by decide⟩
theorem get0 : getF [110, 105, 115] [2, 1, 2, 127, 97, 0, 255, 0, 0] = (L0, 0) := get_of_put ok0 put0
theorem get1 : getF [110] [1, 0] = ([], 5) := get_none (by decide) (by decide) (by rfl)
theorem ab1 : Ab [97, 255] 1 := ⟨by decide, by
  intro j h hj
  simp at h
  obtain rfl : j = 1 := by omega
  rfl, .inr ⟨by decide, by decide⟩⟩
theorem ab0 : Ab [255] 0 := ⟨by decide, by
  intro j h hj
  simp at h
  subst h
  rfl, .inl rfl⟩
theorem cmp0 : cmpF L0 (L0.take 1) = 1 := by
  show cmpF (⟨258, 0, ⟨#[]⟩⟩ :: _) (⟨258, 0, ⟨#[]⟩⟩ :: []) = 1
  rw [cmpF, if_pos rfl]; rfl
theorem fds0 (w : World) (t : TypeId) : Fds (w.alloc (.cells #[.int .u64 258, .int .i64 0, .string ⟨#[]⟩, .int .u64 0, .int .i64 (-1), .string ⟨#[]⟩, .int .u64 0, .int .i64 0, .string ⟨#[97, 0]⟩] t)) (some ⟨w.heap.size, 0, none⟩) L0 := by
  intro j hj
  refine ⟨w.heap.size, 0, rfl, by simp, ?_⟩
  rcases j with _ | _ | _ | j
  · refine ⟨?_, ?_, ?_⟩ <;> (rw [World.cell?_alloc_at _ _ _ _ rfl]; rfl)
  · refine ⟨?_, ?_, ?_⟩ <;> (rw [World.cell?_alloc_at _ _ _ _ rfl]; rfl)
  · refine ⟨?_, ?_, ?_⟩ <;> (rw [World.cell?_alloc_at _ _ _ _ rfl]; rfl)
  · have : L0.length = 3 := rfl
    omega
theorem fds1 (w : World) (t : TypeId) : Fds (w.alloc (.cells #[.int .u64 0, .int .i64 (-257), .string ⟨#[]⟩] t)) (some ⟨w.heap.size, 0, none⟩) L1 := by
  intro j hj
  refine ⟨w.heap.size, 0, rfl, by simp, ?_⟩
  rcases j with _ | j
  · refine ⟨?_, ?_, ?_⟩ <;> (rw [World.cell?_alloc_at _ _ _ _ rfl]; rfl)
  · have : L1.length = 1 := rfl
    omega
theorem Fds.take {w : World} {a : Option Addr} {L : List Fd} (h : Fds w a L) (n : Nat) : Fds w a (L.take n) := by
  intro j hj
  have hj' : j < L.length := by rw [List.length_take] at hj; omega
  obtain ⟨b, off, ha, hlt, c1, c2, c3⟩ := h j hj'
  exact ⟨b, off, ha, hlt, by rw [List.getElem_take]; exact c1, by rw [List.getElem_take]; exact c2, by rw [List.getElem_take]; exact c3⟩
theorem hput0 (w : World) (a : Option Addr) (cap : Nat) (h : Fds w a L0) : Calls Try.prog 10 #[.string ⟨#[110, 105, 115]⟩, .slice a 3 cap] w fun e w' => e = .returned (.tuple #[.string ⟨#[2, 1, 2, 127, 97, 0, 255, 0, 0]⟩, .int .i64 0]) ∧ Below w.heap.size w w' := by
  have k := put_c ⟨#[110, 105, 115]⟩ w a cap L0 h fine0 (by decide) (by decide)
  unfold PutRes at k
  rw [show (⟨#[110, 105, 115]⟩ : ByteArray).data.toList = [110, 105, 115] from rfl, put0] at k
  exact k
theorem hput1 (w : World) (a : Option Addr) (cap : Nat) (h : Fds w a L1) : Calls Try.prog 10 #[.string ⟨#[105]⟩, .slice a 1 cap] w fun e w' => e = .returned (.tuple #[.string ⟨#[125, 254, 255]⟩, .int .i64 0]) ∧ Below w.heap.size w w' := by
  have k := put_c ⟨#[105]⟩ w a cap L1 h fine1 (by decide) (by decide)
  unfold PutRes at k
  rw [show (⟨#[105]⟩ : ByteArray).data.toList = [105] from rfl, put1] at k
  exact k
theorem hget0 (w : World) : Calls Try.prog 16 #[.string ⟨#[110, 105, 115]⟩, .string ⟨#[2, 1, 2, 127, 97, 0, 255, 0, 0]⟩] w fun e w' => ∃ a cap, e = .returned (.tuple #[.slice a 3 cap, .int .i64 0]) ∧ Fds w' a L0 ∧ Below w.heap.size w w' := by
  have k := pget_c ⟨#[110, 105, 115]⟩ ⟨#[2, 1, 2, 127, 97, 0, 255, 0, 0]⟩ w (by decide) (by decide)
  unfold GetRes at k
  rw [show (⟨#[110, 105, 115]⟩ : ByteArray).data.toList = [110, 105, 115] from rfl, show (⟨#[2, 1, 2, 127, 97, 0, 255, 0, 0]⟩ : ByteArray).data.toList = [2, 1, 2, 127, 97, 0, 255, 0, 0] from rfl, get0] at k
  exact k
theorem hget1 (w : World) : Calls Try.prog 16 #[.string ⟨#[110]⟩, .string ⟨#[1, 0]⟩] w fun e w' => ∃ a cap, e = .returned (.tuple #[.slice a 0 cap, .int .i64 5]) ∧ Below w.heap.size w w' := by
  have k := pget_c ⟨#[110]⟩ ⟨#[1, 0]⟩ w (by decide) (by decide)
  unfold GetRes at k
  rw [show (⟨#[110]⟩ : ByteArray).data.toList = [110] from rfl, show (⟨#[1, 0]⟩ : ByteArray).data.toList = [1, 0] from rfl, get1] at k
  refine k.mono ?_
  rintro e w' ⟨a, cap, rfl, _, hb⟩
  exact ⟨a, cap, rfl, hb⟩
theorem habove1 (w : World) : Calls Try.prog 22 #[.string ⟨#[97, 255]⟩] w fun e w' => e = .returned (.tuple #[.string ⟨#[98]⟩, .bool true]) ∧ Below w.heap.size w w' := by
  refine (above_c [97, 255] w (by decide)).mono ?_
  rintro e w' ⟨k, hk, _, h1, hb⟩
  obtain rfl := ab_one hk ab1
  exact ⟨h1 (by decide), hb⟩
theorem habove0 (w : World) : Calls Try.prog 22 #[.string ⟨#[255]⟩] w fun e w' => e = .returned (.tuple #[.string ⟨#[]⟩, .bool false]) ∧ Below w.heap.size w w' := by
  refine (above_c [255] w (by decide)).mono ?_
  rintro e w' ⟨k, hk, h0, _, hb⟩
  obtain rfl := ab_one hk ab0
  exact ⟨h0 rfl, hb⟩
theorem hsame0 (w : World) (a b : Option Addr) (ca cb : Nat) (hL : Fds w a L0) (hM : Fds w b L0) : Calls Try.prog 18 #[.slice a 3 ca, .slice b 3 cb] w fun e w' => e = .returned (.bool true) ∧ Below w.heap.size w w' := by
  have k := same_c w a b ca cb L0 L0 hL hM (by decide) (by decide)
  rw [decide_eq_true rfl] at k
  exact k
theorem hkinds (w : World) : Calls Try.prog 12 #[.string ⟨#[120]⟩] w fun e w' => e = .returned (.bool false) ∧ w = w' := by
  have k := kinds_c ⟨#[120]⟩ w (by decide)
  rw [show kindsB (⟨#[120]⟩ : ByteArray).data.toList = false by decide] at k
  exact k
theorem hcmp0 (w : World) (a : Option Addr) (ca cb : Nat) (hL : Fds w a L0) : Calls Try.prog 19 #[.slice a 3 ca, .slice a 1 cb] w fun e w' => e = .returned (.int .i64 1) ∧ Below w.heap.size w w' := by
  have k := compare_c w a a ca cb L0 (L0.take 1) hL (hL.take 1) (by decide) (by decide)
  rw [cmp0] at k
  exact k
set_option maxRecDepth 100000 in
set_option maxHeartbeats 3200000 in
theorem head_c (w : World) : Calls Try.prog 9 #[] w fun e w' => e = .returned (.bool true) ∧ Below w.heap.size w w' := by
  go_enter Try.func9, Try.ntmps9
  go_wp2_with fail
  have F1 := fds0 w 47
  have B1 := (Below.refl w.heap.size w).alloc (Nat.le_refl _) (.cells #[.int .u64 258, .int .i64 0, .string ⟨#[]⟩, .int .u64 0, .int .i64 (-1), .string ⟨#[]⟩, .int .u64 0, .int .i64 0, .string ⟨#[97, 0]⟩] 47)
  refine (hput0 _ _ _ F1).mono ?_
  rintro e w2 ⟨rfl, b2⟩
  have F2 := Lib.hid (F1.later b2)
  have B2 := Lib.hid (then_below B1 b2)
  clear F1 B1 b2
  go_wp2_with fail
  refine (hget0 _).mono ?_
  rintro e w3 ⟨a3, c3, rfl, f3, b3⟩
  have F3 := Lib.hid (F2.out.later b3)
  have G3 := Lib.hid f3
  have B3 := Lib.hid (then_below B2.out b3)
  clear F2 B2 b3 f3
  go_wp2_with fail
  have F4 := fds1 w3 47
  have b4 := (Below.refl w3.heap.size w3).alloc (Nat.le_refl _) (.cells #[.int .u64 0, .int .i64 (-257), .string ⟨#[]⟩] 47)
  have f4 := F3.out.later b4
  have g4 := G3.out.later b4
  have d4 := then_below B3.out b4
  refine (hput1 _ _ _ F4).mono ?_
  rintro e w5 ⟨rfl, b5⟩
  have F5 := Lib.hid (f4.later b5)
  have G5 := Lib.hid (g4.later b5)
  have B5 := Lib.hid (then_below d4 b5)
  clear F3 G3 B3 F4 b4 f4 g4 d4 b5
  go_wp2_with fail
  refine (hget1 _).mono ?_
  rintro e w6 ⟨a6, c6, rfl, b6⟩
  have F6 := Lib.hid (F5.out.later b6)
  have G6 := Lib.hid (G5.out.later b6)
  have B6 := Lib.hid (then_below B5.out b6)
  clear F5 G5 B5 b6
  go_wp2_with fail
  refine (habove1 _).mono ?_
  rintro e w7 ⟨rfl, b7⟩
  have F7 := Lib.hid (F6.out.later b7)
  have G7 := Lib.hid (G6.out.later b7)
  have B7 := Lib.hid (then_below B6.out b7)
  clear F6 G6 B6 b7
  go_wp2_with fail
  refine (habove0 _).mono ?_
  rintro e w8 ⟨rfl, b8⟩
  have F8 := Lib.hid (F7.out.later b8)
  have G8 := Lib.hid (G7.out.later b8)
  have B8 := Lib.hid (then_below B7.out b8)
  clear F7 G7 B7 b8
  go_wp2_with fail
  refine (hsame0 _ _ _ _ _ G8.out F8.out).mono ?_
  rintro e w9 ⟨rfl, b9⟩
  have F9 := Lib.hid (F8.out.later b9)
  have B9 := Lib.hid (then_below B8.out b9)
  clear F8 G8 B8 b9
  go_wp2_with fail
  refine (hkinds _).mono ?_
  rintro e w10 ⟨rfl, rfl⟩
  go_wp2_with fail
  refine (hcmp0 _ _ _ _ F9.out).mono ?_
  rintro e w11 ⟨rfl, b11⟩
  have B11 := Lib.hid (then_below B9.out b11)
  clear F9 B9 b11
  go_wp2_with fail
  go_ret
  exact ⟨rfl, B11.out⟩
end Go.Proofs.Ytoicnpekbpphjaa.Or
