/- Joined: ChRow ChShut ChGood ChGm ChRef. -/
import Derived.Test.YtnblilonjpfdnaaJcD
section
namespace Go.Proofs.Ytnblilonjpfdnaa.Ch
open Go Go.RowKit Ck Go.Maps
abbrev TAs : TypeId := 26
abbrev TAc : TypeId := 35
theorem infoAc : (Try.prog.info? TAc).map (fun i => (i.size, i.bytes)) = some (5, 48) := by kernel_rfl
theorem zeroAc : ((Try.prog.info? TAc).bind (·.zero)).map (fun z => z.cells.size) = some 5 := by kernel_rfl
theorem info_ac : ∃ i z, Try.prog.info? TAc = some i ∧ i.zero = some z ∧ i.size = 5 ∧ i.bytes = 48 ∧ z.cells.size = 5 := by
  have h := infoAc
  have h2 := zeroAc
  cases hi : Try.prog.info? TAc with
  | none => rw [hi] at h; cases h
  | some i =>
    rw [hi] at h h2
    simp only [Option.map_some, Option.some.injEq, Prod.mk.injEq, Option.bind_some] at h h2
    cases hz : i.zero with
    | none => rw [hz] at h2; cases h2
    | some z =>
      rw [hz] at h2
      simp only [Option.map_some, Option.some.injEq] at h2
      exact ⟨i, z, rfl, hz, h.1, h.2, h2⟩
def flatA (A : List A5) : List Value := A.flatMap A5.cells
theorem flatA_snoc (A : List A5) (x : A5) : flatA (A ++ [x]) = flatA A ++ x.cells := by simp [flatA]
theorem flatA_app (A B : List A5) : flatA (A ++ B) = flatA A ++ flatA B := by simp [flatA]
theorem flatA_len (A : List A5) : (flatA A).length = A.length * 5 := by
  induction A with
  | nil => rfl
  | cons x A ih =>
    show (x.cells ++ flatA A).length = _
    rw [List.length_append, ih, List.length_cons]
    show 5 + A.length * 5 = _
    omega
theorem flatA_at (A : List A5) : ∀ (j : Nat) (hj : j < A.length) (i : Nat) (v : Value), A[j].cells[i]? = some v → (flatA A)[j * 5 + i]? = some v := by
  induction A with
  | nil => intro j hj; simp at hj
  | cons x A ih =>
    intro j hj i v hv
    show (x.cells ++ flatA A)[j * 5 + i]? = some v
    have hi := (List.getElem?_eq_some_iff.1 hv).1
    have h6 : ∀ y : A5, y.cells.length = 5 := fun _ => rfl
    rw [h6] at hi
    cases j with
    | zero => rw [List.getElem?_append_left (by rw [h6]; omega), Nat.zero_mul, Nat.zero_add]; exact hv
    | succ j =>
      rw [List.getElem?_append_right (by rw [h6]; omega), h6, show (j + 1) * 5 + i - 5 = j * 5 + i by omega]
      exact ih j (by simpa using hj) i v hv
/-- Accounts in memory. -/
def Acs (w : World) (a : Option Addr) (A : List A5) : Prop := ∀ j (h : j < A.length), ∃ b off, a = some ⟨b, off, none⟩ ∧ b < w.heap.size ∧ ∀ i v, A[j].cells[i]? = some v → w.cell? ⟨b, off + j * 5 + i, none⟩ = some v
theorem Acs.later {w w' : World} {a : Option Addr} {A : List A5} (h : Acs w a A) (hb : Below w.heap.size w w') : Acs w' a A := fun j hj => by
  obtain ⟨b, off, ha, hlt, hc⟩ := h j hj
  exact ⟨b, off, ha, Nat.lt_of_lt_of_le hlt hb.size, fun i v hv => by rw [hb.cell (by simpa using hlt)]; exact hc i v hv⟩
/-- A row of accounts of one's own. -/
theorem acs_own {w : World} {base n : Nat} {v : Value} {A : List A5} (h : w.ownsRow base TAc 5 v n (flatA A)) (hn : n = A.length) : ∃ a cap, v = .slice a A.length cap ∧ Acs w a A ∧ A.length ≤ cap := by
  subst hn
  rcases id h.2 with ⟨rfl, h0⟩ | ⟨g, cap, cur, rfl, _, hg, hc, _, _, ht⟩
  · refine ⟨none, 0, ?_, fun j hj => by omega, by omega⟩
    simp only [Value.slice.injEq, true_and, and_true]
    omega
  · refine ⟨_, cap, rfl, fun j hj => ⟨g, 0, rfl, (Array.getElem?_eq_some_iff.1 hg).1, fun i u hu => ?_⟩, hc⟩
    have h1 := flatA_at A j hj i u hu
    have hi := (List.getElem?_eq_some_iff.1 hu).1
    have h5 : A[j].cells.length = 5 := rfl
    have e : cur.toList[j * 5 + i]? = some u := by
      have := congrArg (fun l => l[j * 5 + i]?) ht
      rw [List.getElem?_take_of_lt (by omega)] at this
      rw [this]; exact h1
    simp only [World.cell?, hg, Nat.zero_add]
    simpa using e
/-- A new list of accounts. -/
def AccsRes (A : List A5) (w : World) (e : Ending) (w' : World) : Prop := ∃ v, e = .returned v ∧ w'.ownsRow w.heap.size TAc 5 v A.length (flatA A) ∧ Below w.heap.size w w'
/-- A chart's accounts, by their codes. -/
def lst (M : Int → Option Acc) (K : List Int) : List A5 := K.map fun k => ((M k).getD Acc.zero).told
theorem new_five (w : World) (a b c d e : Value) (t : TypeId) : ∀ j u, [a, b, c, d, e][j]? = some u → (w.alloc (.cells #[a, b, c, d, e] t)).cell? ((⟨w.heap.size, 0, none⟩ : Addr).add j) = some u := by
  intro j u hj
  have := (Rw.new w [a, b, c, d, e] t).cell (0 + j)
  rw [Nat.zero_add, hj] at this
  rw [← this]
  by_cases h0 : j = 0
  · subst h0; rfl
  · simp [Addr.add, h0]
section
variable {w : World} {c bm n : Nat} {tv : Value} {M : Int → Option Acc} {K : List Int}
set_option maxRecDepth 100000 in
theorem all_nil (w : World) : Calls Try.prog 20 #[.pointer none] w fun e w' => e = .returned (.slice none 0 0) ∧ Below w.heap.size w w' := by
  have KI := Lib.hid is_nil
  go_enter Try.func20, Try.ntmps20
  go_wp2_with fail
  refine (KI.out _).mono ?_
  rintro e w' ⟨rfl, rfl⟩
  go_wp2_with fail
  go_ret
  exact ⟨rfl, Below.refl _ _⟩
set_option maxRecDepth 100000 in
theorem all_zero (h : Rw w c TCh [.map none, .slice none 0 0]) : Calls Try.prog 20 #[.pointer (some ⟨c, 0, none⟩)] w fun e w' => e = .returned (.slice none 0 0) ∧ Below w.heap.size w w' := by
  have KI := Lib.hid (is_zero h)
  clear h
  go_enter Try.func20, Try.ntmps20
  go_wp2_with fail
  refine KI.out.mono ?_
  rintro e w' ⟨rfl, rfl⟩
  go_wp2_with fail
  go_ret
  exact ⟨rfl, Below.refl _ _⟩
theorem own_form5 {base : Nat} {u : World} {v : Value} {N : Nat} {xs : List Value} (h : u.ownsRow base TAc 5 v N xs) : ∃ a cap, v = .slice a N cap := by
  rcases h.2 with ⟨rfl, h0⟩ | ⟨g, cap, cur, rfl, _⟩
  · exact ⟨none, 0, by rw [h0]⟩
  · exact ⟨_, cap, rfl⟩
set_option maxRecDepth 100000 in
set_option maxHeartbeats 3200000 in
theorem all_c (h : At w c bm tv n M K) (hw : Wd M) (hK9 : K.length ≤ 1000000) : Calls Try.prog 20 #[.pointer (some ⟨c, 0, none⟩)] w (AccsRes (lst M K) w) := by
  have H := Lib.hid h
  have HW := Lib.hid hw
  obtain ⟨i0, z0, hi0, hz0, hz1, hz2, hz3⟩ := info_ac
  have KI := Lib.hid (is_c h)
  have KK := Lib.hid (keys_c h)
  obtain ⟨ta, tc, rfl⟩ := own_form h.own
  clear h hw
  go_enter Try.func20, Try.ntmps20
  go_wp2_with fail
  refine KI.out.mono ?_
  rintro e w' ⟨rfl, rfl⟩
  go_wp2_with fail
  refine KK.out.mono ?_
  rintro e w' ⟨rfl, rfl⟩
  go_wp2_with fail
  clear KI KK
  go_loopg [3, 16] K.length (fun kx s3 s16 wr => ∃ (i : Nat) (vv : Value), s16 = .int .i64 (i : Int) ∧ vv = s3 ∧ i ≤ K.length ∧ Hid (wr.ownsRow w.heap.size TAc 5 vv i (flatA (lst M (K.take i)))) ∧ Hid (Below w.heap.size w wr) ∧ K.length ≤ i + kx)
  case atStart => exact ⟨0, _, rfl, rfl, Nat.zero_le _, World.ownsRow_nil _ _ _ _, Below.refl _ _, by omega⟩
  case round =>
    obtain ⟨i, vv, rfl, hvv, hi9, HO, HBr, hkx⟩ := hrel
    obtain ⟨a9, c9, rfl⟩ := own_form5 HO.out
    subst hvv
    by_cases hlt : i < K.length
    · have HR := Lib.hid (H.out.later HBr.out)
      obtain ⟨ga, cap, hsl, hc⟩ := own_at HR.out.own hlt
      cases hsl
      obtain ⟨b, hb⟩ : ∃ b, b = K[i] := ⟨_, rfl⟩
      rw [← hb] at hc
      have hmem : (M b).isSome = true := (HR.out.ks.mem b).1 (by rw [hb]; exact List.getElem_mem hlt)
      have hIb : I64 b := by
        cases hm : M b with
        | none => rw [hm] at hmem; cases hmem
        | some p => have := HW.out.code b p hm; unfold I64; omega
      have HT : Hid (flatA (lst M (K.take (i + 1))) = flatA (lst M (K.take i)) ++ ((M b).getD Acc.zero).told.cells) := by
        show _ = _
        rw [List.take_succ_eq_append_getElem hlt, ← hb]
        unfold lst
        rw [List.map_append, List.map_singleton, flatA_snoc]
      have KG := Lib.hid (get_c HR.out b hIb)
      unfold GetRes at KG
      obtain ⟨x, hx⟩ : ∃ x, x = (M b).getD Acc.zero := ⟨_, rfl⟩
      rw [← hx, hmem] at KG
      rw [← hx] at HT
      have j0 : (0 : Int) ≤ (i : Int) := by omega
      have j1 : (i : Int) < (K.length : Int) := by omega
      clear hb hmem hIb hx
      obtain ⟨xa, xb, xc, xs, xd, xe, xf⟩ := x
      unfold Acc.val at KG
      simp only at KG
      go_wp2_with fail
      refine KG.out.mono ?_
      rintro e u ⟨rfl, hb5⟩
      have HO5 := Lib.hid (own_later HO.out hb5)
      have HB5 : Hid (Below w.heap.size w u) := HBr.out.trans (hb5.mono HBr.out.size)
      clear hb5 KG hc
      have hs5 := HB5.out.size
      go_upto_region 8 with (fail)
      have HB6 : Hid (Below w.heap.size w (u.alloc (.cells #[.int .i64 xa, .int .i64 xb, .int .u8 xc, .string xs, .bool xd, .int .i64 xe, .int .i64 xf] TAcc))) := HB5.out.alloc hs5 _
      have HO6 : Hid ((u.alloc (.cells #[.int .i64 xa, .int .i64 xb, .int .u8 xc, .string xs, .bool xd, .int .i64 xe, .int .i64 xf] TAcc)).ownsRow w.heap.size TAc 5 (.slice a9 i c9) i (flatA (lst M (K.take i)))) := HO5.out.alloc _
      have RX : Hid (Rw (u.alloc (.cells #[.int .i64 xa, .int .i64 xb, .int .u8 xc, .string xs, .bool xd, .int .i64 xe, .int .i64 xf] TAcc)) u.heap.size TAcc [.int .i64 xa, .int .i64 xb, .int .u8 xc, .string xs, .bool xd, .int .i64 xe, .int .i64 xf]) := Rw.new u [.int .i64 xa, .int .i64 xb, .int .u8 xc, .string xs, .bool xd, .int .i64 xe, .int .i64 xf] TAcc
      obtain ⟨bx, hbx⟩ : ∃ bx, bx = u.heap.size := ⟨_, rfl⟩
      generalize u.alloc (.cells #[.int .i64 xa, .int .i64 xb, .int .u8 xc, .string xs, .bool xd, .int .i64 xe, .int .i64 xf] TAcc) = W1 at HB6 HO6 RX ⊢
      rw [← hbx] at RX ⊢
      clear hbx HB5 HO5 hs5
      have s0 : W1.cell? ⟨bx, 0, none⟩ = some (.int .i64 xa) := RX.out.cell 0
      have s1 : W1.cell? ⟨bx, 1, none⟩ = some (.int .i64 xb) := RX.out.cell 1
      have s2 : W1.cell? ⟨bx, 2, none⟩ = some (.int .u8 xc) := RX.out.cell 2
      have s3 : W1.cell? ⟨bx, 3, none⟩ = some (.string xs) := RX.out.cell 3
      have s4 : W1.cell? ⟨bx, 4, none⟩ = some (.bool xd) := RX.out.cell 4
      have hs6 := HB6.out.size
      go_wp2_with (at_builtin; refine wpList_append_own_at _ rfl _ _ TAs rfl w.heap.size TAc i0 z0 5 48 Try.underlying26 hi0 hz0 hz1 hz2 hz3 (by decide) _ _ _ rfl (HO6.out.alloc _) ⟨W1.heap.size, 0, none⟩ 1 1 [.int .i64 xa, .int .i64 xb, .int .u8 xc, .string xs, .bool xd] rfl rfl (new_five _ _ _ _ _ _ _) (by simp [Value.oneCell']) (by unfold maxLen; omega) (by omega) (by simp; omega) ?_)
      intro v' w6 hown hgrow hnil hat
      obtain ⟨a8, c8, rfl⟩ := own_form5 hown
      have HB7 : Hid (Below w.heap.size w w6) := (HB6.out.alloc hs6 _).grown hgrow (by simp; omega) (fun j hj => (HO6.out.lt j hj).1)
      have HO7 : Hid (w6.ownsRow w.heap.size TAc 5 (.slice a8 (i + 1) c8) (i + 1) (flatA (lst M (K.take (i + 1))))) := by
        show World.ownsRow _ _ _ _ _ _ _
        rw [HT.out]
        exact hown
      clear hown hgrow hnil hat
      go_wp2_with fail
      go_roundg (K.length - (i + 1))
      case measure => omega
      case rel => exact ⟨i + 1, _, by simp, rfl, by omega, HO7, HB7, by omega⟩
    · obtain rfl : i = K.length := by omega
      have HO9 : Hid (wr.ownsRow w.heap.size TAc 5 (.slice a9 K.length c9) (lst M K).length (flatA (lst M K))) := by
        have e : (lst M K).length = K.length := by unfold lst; simp
        rw [e]
        have := HO.out
        rwa [List.take_length] at this
      clear hkx hlt hi9
      go_wp2_with fail
      go_ret
      exact ⟨_, rfl, HO9.out, HBr.out⟩
end
end Go.Proofs.Ytnblilonjpfdnaa.Ch
end
section
namespace Go.Proofs.Ytnblilonjpfdnaa.Ch
open Go Go.RowKit Ck Go.Maps
def badAt (M : Int → Option Acc) (code b : Int) : Bool := ((M b).getD Acc.zero).shut == decide (b = code)
def Acc.shutIt (p : Acc) : Acc := ⟨p.code, p.up, p.cls, p.name, true, p.depth, p.kids⟩
def shutM (M : Int → Option Acc) (K : List Int) (code : Int) : (Int → Option Acc) × Int :=
  if (M code).isSome = false then (M, 7) else
  if (undL M K code).any (badAt M code) = true then (M, 9) else (upd M code ((M code).getD Acc.zero).shutIt, 0)
section
variable {w : World} {c bm n : Nat} {tv : Value} {M : Int → Option Acc} {K : List Int}
set_option maxRecDepth 100000 in
theorem shut_nil (w : World) (k : Int) : Calls Try.prog 11 #[.pointer none, .int .i64 k] w fun e w' => e = .returned (.int .i64 1) ∧ Below w.heap.size w w' := by
  have KI := Lib.hid is_nil
  go_enter Try.func11, Try.ntmps11
  go_wp2_with fail
  refine (KI.out _).mono ?_
  rintro e w' ⟨rfl, rfl⟩
  go_wp2_with fail
  go_ret
  exact ⟨rfl, Below.refl _ _⟩
set_option maxRecDepth 100000 in
theorem shut_zero (h : Rw w c TCh [.map none, .slice none 0 0]) (k : Int) : Calls Try.prog 11 #[.pointer (some ⟨c, 0, none⟩), .int .i64 k] w fun e w' => e = .returned (.int .i64 1) ∧ Below w.heap.size w w' := by
  have KI := Lib.hid (is_zero h)
  clear h
  go_enter Try.func11, Try.ntmps11
  go_wp2_with fail
  refine KI.out.mono ?_
  rintro e w' ⟨rfl, rfl⟩
  go_wp2_with fail
  go_ret
  exact ⟨rfl, Below.refl _ _⟩
set_option maxRecDepth 100000 in
set_option maxHeartbeats 3200000 in
theorem shut_c (h : At w c bm tv n M K) (hw : Wd M) (code : Int) (hk : I64 code) (hn : n < 900000) (hK9 : K.length ≤ 900000) : Calls Try.prog 11 #[.pointer (some ⟨c, 0, none⟩), .int .i64 code] w (AddRes c bm n tv (shutM M K code).1 (shutM M K code).2 w) := by
  have H := Lib.hid h
  have HW := Lib.hid hw
  have HC := Lib.hid hk
  have HN := Lib.hid hn
  obtain ⟨R, hR⟩ : ∃ R, R = shutM M K code := ⟨_, rfl⟩
  rw [← hR]
  have KI := Lib.hid (is_c h)
  have KG := Lib.hid (get_c h code hk)
  unfold GetRes at KG
  obtain ⟨x, hx⟩ : ∃ x, x = (M code).getD Acc.zero := ⟨_, rfl⟩
  obtain ⟨q, hq⟩ : ∃ q, q = (M code).isSome := ⟨_, rfl⟩
  rw [← hx, ← hq] at KG
  unfold shutM at hR
  rw [← hx, ← hq] at hR
  have HX := Lib.hid hx
  have HQ := Lib.hid hq
  clear hx hq h hw hk hn
  obtain ⟨xa, xb, xc, xs, xd, xe, xf⟩ := x
  unfold Acc.val at KG
  simp only at KG
  go_enter Try.func11, Try.ntmps11
  go_wp2_with fail
  refine KI.out.mono ?_
  rintro e w' ⟨rfl, rfl⟩
  go_wp2_with fail
  refine KG.out.mono ?_
  rintro e u ⟨rfl, hb⟩
  have RX : Hid (Rw (u.alloc (.cells #[.int .i64 xa, .int .i64 xb, .int .u8 xc, .string xs, .bool xd, .int .i64 xe, .int .i64 xf] TAcc)) u.heap.size TAcc [.int .i64 xa, .int .i64 xb, .int .u8 xc, .string xs, .bool xd, .int .i64 xe, .int .i64 xf]) := Rw.new u [.int .i64 xa, .int .i64 xb, .int .u8 xc, .string xs, .bool xd, .int .i64 xe, .int .i64 xf] TAcc
  have HB1 : Hid (Below w.heap.size w (u.alloc (.cells #[.int .i64 xa, .int .i64 xb, .int .u8 xc, .string xs, .bool xd, .int .i64 xe, .int .i64 xf] TAcc))) := hb.alloc hb.size _
  have HBX : Hid (w.heap.size ≤ u.heap.size) := hb.size
  clear hb KG KI
  cases q with
  | false =>
    rw [if_pos rfl] at hR
    subst hR
    go_wp2_with fail
    go_ret
    exact add_same H.out HB1.out
  | true =>
    rw [if_neg (by decide)] at hR
    go_upto_region 6 with (fail)
    obtain ⟨bx, hbx⟩ : ∃ bx, bx = u.heap.size := ⟨_, rfl⟩
    generalize u.alloc (.cells #[.int .i64 xa, .int .i64 xb, .int .u8 xc, .string xs, .bool xd, .int .i64 xe, .int .i64 xf] TAcc) = W1 at RX HB1 ⊢
    rw [← hbx] at RX HBX ⊢
    clear hbx
    have KU := Lib.hid (under_c (H.out.later HB1.out) HW.out code HC.out (by omega))
    obtain ⟨L, hL⟩ : ∃ L, L = undL M K code := ⟨_, rfl⟩
    rw [← hL] at KU hR
    have HL := Lib.hid hL
    clear hL
    unfold IntsRes at KU
    go_wp2_with fail
    refine KU.out.mono ?_
    rintro e w2 ⟨v, rfl, hv, hb⟩
    have HB2 : Hid (Below w.heap.size w w2) := HB1.out.trans (hb.mono HB1.out.size)
    have RX2 := Lib.hid (RX.out.later hb)
    have HV := Lib.hid hv
    have HL9 : Hid (L.length ≤ 900000) := by rw [HL.out]; exact Nat.le_trans (List.length_filter_le _ _) hK9
    obtain ⟨va, vc, rfl⟩ := own_form hv
    have hb1s : Hid (w.heap.size ≤ W1.heap.size) := HB1.out.size
    clear hb hv KU RX HB1
    go_wp2_with fail
    go_loopg [26] L.length (fun kx s26 wr => ∃ (i : Nat), s26 = .int .i64 (i : Int) ∧ i ≤ L.length ∧ Hid (∀ j (h : j < L.length), j < i → badAt M code L[j] = false) ∧ Hid (Below w2.heap.size w2 wr) ∧ L.length ≤ i + kx)
    case atStart => exact ⟨0, rfl, Nat.zero_le _, fun j _ hj => by omega, Below.refl _ _, by omega⟩
    case round =>
      obtain ⟨i, rfl, hi9, HJ, HBr, hkx⟩ := hrel
      have HBw : Hid (Below w.heap.size w wr) := HB2.out.trans (HBr.out.mono HB2.out.size)
      by_cases hlt : i < L.length
      · have HVr := Lib.hid (own_later HV.out HBr.out)
        obtain ⟨ga, cap, hsl, hc⟩ := own_at HVr.out hlt
        cases hsl
        obtain ⟨b, hb⟩ : ∃ b, b = L[i] := ⟨_, rfl⟩
        rw [← hb] at hc
        have hbK : b ∈ K := by
          have : b ∈ L := by rw [hb]; exact List.getElem_mem hlt
          rw [HL.out] at this
          exact (List.mem_filter.1 this).1
        have hmem : (M b).isSome = true := (H.out.ks.mem b).1 hbK
        have hIb : I64 b := by
          cases hm : M b with
          | none => rw [hm] at hmem; cases hmem
          | some p => have := HW.out.code b p hm; unfold I64; omega
        have HR := Lib.hid (H.out.later HBw.out)
        have KG := Lib.hid (get_c HR.out b hIb)
        unfold GetRes at KG
        obtain ⟨y, hy⟩ : ∃ y, y = (M b).getD Acc.zero := ⟨_, rfl⟩
        rw [← hy, hmem] at KG
        have HBA : Hid (badAt M code b = (y.shut == decide (b = code))) := by show _ = _; rw [hy]; rfl
        have HBL := Lib.hid hb
        have j0 : (0 : Int) ≤ (i : Int) := by omega
        have j1 : (i : Int) < (L.length : Int) := by omega
        clear hb hmem hIb hy hbK
        obtain ⟨ya, yb, yc, ys, yd, ye, yf⟩ := y
        unfold Acc.val at KG
        simp only at KG HBA
        go_wp2_with fail
        refine KG.out.mono ?_
        rintro e u3 ⟨rfl, hb3⟩
        have HB3 : Hid (Below w2.heap.size w2 (u3.alloc (.cells #[.int .i64 ya, .int .i64 yb, .int .u8 yc, .string ys, .bool yd, .int .i64 ye, .int .i64 yf] TAcc))) := (HBr.out.trans (hb3.mono HBr.out.size)).alloc (Nat.le_trans HBr.out.size hb3.size) _
        have y4 : (u3.alloc (.cells #[.int .i64 ya, .int .i64 yb, .int .u8 yc, .string ys, .bool yd, .int .i64 ye, .int .i64 yf] TAcc)).cell? ⟨u3.heap.size, 4, none⟩ = some (.bool yd) := (Rw.new u3 [.int .i64 ya, .int .i64 yb, .int .u8 yc, .string ys, .bool yd, .int .i64 ye, .int .i64 yf] TAcc).cell 4
        clear hb3 KG hc
        have HBy : Hid (Below w.heap.size w (u3.alloc (.cells #[.int .i64 ya, .int .i64 yb, .int .u8 yc, .string ys, .bool yd, .int .i64 ye, .int .i64 yf] TAcc))) := HB2.out.trans (HB3.out.mono HB2.out.size)
        obtain ⟨z, hz⟩ : ∃ z, z = decide (b = code) := ⟨_, rfl⟩
        rw [← hz] at HBA
        have e1 : (b == code) = z := by
          rw [hz]
          by_cases e : b = code
          · simp [e]
          · simp [e]
        by_cases hyz : yd = z
        · have hbad : L.any (badAt M code) = true := List.any_eq_true.2 ⟨b, by rw [HBL.out]; exact List.getElem_mem hlt, by rw [HBA.out, hyz]; simp⟩
          rw [if_pos hbad] at hR
          subst hR
          clear hz hbad HJ
          cases z <;> subst hyz <;> (go_wp2_with (fail)) <;> go_ret <;> exact add_same H.out HBy.out
        · have HJ2 : Hid (∀ j (h : j < L.length), j < i + 1 → badAt M code L[j] = false) := fun j hj hji => by
            by_cases e : j = i
            · subst e
              rw [← HBL.out, HBA.out]
              cases yd <;> cases z <;> simp_all
            · exact HJ.out j hj (by omega)
          have hl9 := HL9.out
          clear hz HJ HBL HBA
          cases z <;> cases yd <;> first | (exact absurd rfl hyz) | (clear hyz; (go_wp2_with (fail)); go_roundg (L.length - (i + 1)); (case measure => omega); (case rel => exact ⟨i + 1, by simp, by omega, HJ2, HB3, by omega⟩))
      · obtain rfl : i = L.length := by omega
        have hok : ¬ L.any (badAt M code) = true := fun hb => by
          obtain ⟨b, hb1, hb2⟩ := List.any_eq_true.1 hb
          obtain ⟨j, hj, rfl⟩ := List.getElem_of_mem hb1
          rw [HJ.out j hj hj] at hb2
          cases hb2
        rw [if_neg hok] at hR
        subst hR
        clear hkx hlt hi9 hok HJ
        have RXr := Lib.hid (RX2.out.later HBr.out)
        have y4 : wr.cell? ⟨bx, 4, none⟩ = some (.bool xd) := RXr.out.cell 4
        have z4 := RXr.out.frozen 4
        go_upto_region 14 with (fail)
        have RX5 : Hid (Rw (wr.setCell ⟨bx, 4, none⟩ (.bool true)) bx TAcc [.int .i64 xa, .int .i64 xb, .int .u8 xc, .string xs, .bool true, .int .i64 xe, .int .i64 xf]) := RXr.out.setCell 4 _
        have HB5 : Hid (Below w.heap.size w (wr.setCell ⟨bx, 4, none⟩ (.bool true))) := Keeps.belowT HBw.out ((Keeps.refl (fun j => j = bx) wr).setCell bx 4 _ (.inl rfl)) (fun j hj => by cases hj; exact HBX.out) HBw.out.size
        generalize wr.setCell ⟨bx, 4, none⟩ (.bool true) = W5 at RX5 HB5 ⊢
        clear y4 z4 RXr RX2
        have q0 : W5.cell? ⟨bx, 0, none⟩ = some (.int .i64 xa) := (RX5.out).cell 0
        have q1 : W5.cell? ⟨bx, 1, none⟩ = some (.int .i64 xb) := (RX5.out).cell 1
        have q2 : W5.cell? ⟨bx, 2, none⟩ = some (.int .u8 xc) := (RX5.out).cell 2
        have q3 : W5.cell? ⟨bx, 3, none⟩ = some (.string xs) := (RX5.out).cell 3
        have q4 : W5.cell? ⟨bx, 4, none⟩ = some (.bool true) := (RX5.out).cell 4
        have q5 : W5.cell? ⟨bx, 5, none⟩ = some (.int .i64 xe) := (RX5.out).cell 5
        have q6 : W5.cell? ⟨bx, 6, none⟩ = some (.int .i64 xf) := (RX5.out).cell 6
        have HA5 := Lib.hid (H.out.keeps ((Keeps.of (fun _ => False) HB5.out).drew) fun _ _ h => h)
        have hn9 := HN.out
        have KS5 := Lib.hid (set_c HA5.out code ⟨xa, xb, xc, xs, true, xe, xf⟩ HC.out (by omega) (by omega))
        unfold Acc.val at KS5
        simp only at KS5
        clear hn9
        go_still_tail 5, (by kernel_rfl)
        change wpList _ _ _ _ _ W5.drew
        go_wp2_with fail
        refine KS5.out.mono ?_
        rintro e w1 ⟨rfl, tv1, K1, hA1, hl1, hk1, hB1⟩
        go_wp2_with fail
        go_ret
        exact ⟨rfl, tv1, K1, n + 1, by omega, .inl rfl, hA1, (Keeps.of _ HB5.out).drew.trans hk1, fun j hj => (hB1 j hj).elim .inl fun h => .inr (Nat.le_trans HB5.out.size h)⟩
end
end Go.Proofs.Ytnblilonjpfdnaa.Ch
end
section
namespace Go.Proofs.Ytnblilonjpfdnaa.Ch
open Go Go.RowKit Ck Go.Maps
/-- Whether b is code or is under it. -/
abbrev und (M : Int → Option Acc) (code b : Int) : Bool := underM M code 9 b
section
variable {M : Int → Option Acc} {K : List Int}
theorem Wd.step (h : Wd M) {b : Int} {p : Acc} (hb : M b = some p) (code : Int) : und M code b = (decide (b = code) || und M code p.up) := by
  have e : underM M code 8 p.up = underM M code 9 p.up := h.under code 7 8 p.up fun q hq => by
    have h1 := h.deep b p hb
    rcases h.up b p hb with e | ⟨q', e1, e2⟩
    · rw [e, h.zero] at hq; cases hq
    · rw [hq] at e1; cases e1; omega
  show underM M code 9 b = _
  rw [underM]
  simp only [hb]
  rw [e]
theorem und_no {b : Int} (hb : M b = none) (code : Int) : und M code b = false := by
  show underM M code 9 b = false
  rw [underM]
  simp only [hb]
/-- By the depth. -/
theorem Wd.induct (h : Wd M) (P : Int → Prop) (hP : ∀ b p, M b = some p → (∀ q, M p.up = some q → P p.up) → P b) : ∀ b p, M b = some p → P b := by
  have key : ∀ (n : Nat) (b : Int) (p : Acc), M b = some p → p.depth ≤ n → P b := by
    intro n
    induction n with
    | zero => intro b p hb hd; have := (h.deep b p hb).1; omega
    | succ n ih =>
      intro b p hb hd
      refine hP b p hb fun q hq => ih _ q hq ?_
      rcases h.up b p hb with e | ⟨q', e1, e2⟩
      · rw [e, h.zero] at hq; cases hq
      · rw [hq] at e1; cases e1; omega
  intro b p hb
  exact key 8 b p hb (h.deep b p hb).2
theorem Wd.self (h : Wd M) {b : Int} {p : Acc} (hb : M b = some p) : und M b b = true := by
  rw [h.step hb]; simp
theorem und_some {u b : Int} (h : und M u b = true) : (M u).isSome = true := by
  cases hu : M u with
  | none => rw [show und M u b = false from underM_none hu 9 b] at h; cases h
  | some p => rfl
theorem und_some' {u b : Int} (h : und M u b = true) : (M b).isSome = true := by
  cases hu : M b with
  | none => rw [und_no hu] at h; cases h
  | some p => rfl
theorem Wd.deeper (h : Wd M) (u : Int) (q : Acc) (hu : M u = some q) : ∀ b p, M b = some p → und M u b = true → q.depth ≤ p.depth ∧ (b ≠ u → q.depth < p.depth) := by
  refine fun b p hb => h.induct (fun b => ∀ p, M b = some p → und M u b = true → q.depth ≤ p.depth ∧ (b ≠ u → q.depth < p.depth)) ?_ b p hb p hb
  intro b p hb ih p' hp' ht
  rw [hb] at hp'
  cases hp'
  rw [h.step hb] at ht
  by_cases e : b = u
  · subst e; rw [hb] at hu; cases hu; exact ⟨by omega, fun h => absurd rfl h⟩
  · simp only [e, decide_false, Bool.false_or] at ht
    have hs := und_some' ht
    cases hm : M p.up with
    | none => rw [hm] at hs; cases hs
    | some r =>
      have h1 := ih r hm r hm ht
      rcases h.up b p hb with e2 | ⟨q', e1, e2⟩
      · rw [e2, h.zero] at hm; cases hm
      · rw [hm] at e1; cases e1; exact ⟨by omega, fun _ => by omega⟩
/-- Nothing is under what it is above. -/
theorem Wd.acyc (h : Wd M) {b : Int} {p : Acc} (hb : M b = some p) : und M b p.up = false := by
  cases hu : und M b p.up with
  | false => rfl
  | true =>
    have hs := und_some' hu
    cases hm : M p.up with
    | none => rw [hm] at hs; cases hs
    | some r =>
      have h1 := h.deeper b p hb _ r hm hu
      rcases h.up b p hb with e2 | ⟨q', e1, e2⟩
      · rw [e2, h.zero] at hm; cases hm
      · rw [hm] at e1; cases e1; omega
/-- The sum over a list. -/
def sm (K : List Int) (f : Int → Nat) : Nat := (K.map f).sum
theorem sm_cons (c : Int) (K : List Int) (f : Int → Nat) : sm (c :: K) f = f c + sm K f := by simp [sm]
theorem sm_nil (f : Int → Nat) : sm [] f = 0 := rfl
theorem sm_congr {K : List Int} {f g : Int → Nat} (h : ∀ c ∈ K, f c = g c) : sm K f = sm K g := by
  unfold sm
  rw [List.map_congr_left h]
theorem sm_add (K : List Int) (f g : Int → Nat) : sm K (fun c => f c + g c) = sm K f + sm K g := by
  induction K with
  | nil => rfl
  | cons c K ih => rw [sm_cons, sm_cons, sm_cons, ih]; omega
theorem sm_zero (K : List Int) : sm K (fun _ => 0) = 0 := by
  induction K with
  | nil => rfl
  | cons c K ih => rw [sm_cons, ih]
theorem sm_swap (K L : List Int) (f : Int → Int → Nat) : sm K (fun a => sm L (f a)) = sm L (fun b => sm K (fun a => f a b)) := by
  induction K with
  | nil => rw [sm_nil, show (fun b => sm ([] : List Int) fun a => f a b) = fun _ => 0 from rfl, sm_zero]
  | cons c K ih =>
    rw [sm_cons, ih, ← sm_add]
    exact sm_congr fun b _ => by rw [sm_cons]
theorem sm_one {K : List Int} (hK : Up K) {b : Int} (hb : b ∈ K) (f : Int → Nat) : sm K (fun c => if c = b then f c else 0) = f b := by
  induction K with
  | nil => cases hb
  | cons c K ih =>
    have hp := List.pairwise_cons.1 hK
    rw [sm_cons]
    by_cases e : c = b
    · subst e
      rw [if_pos rfl]
      have : sm K (fun d => if d = c then f d else 0) = 0 := by
        refine (sm_congr fun d hd => if_neg fun e => ?_).trans (sm_zero K)
        have := hp.1 d hd
        omega
      omega
    · rw [if_neg e, ih hp.2 ((List.mem_cons.1 hb).resolve_left fun h => e h.symm)]
      omega
theorem sm_filter (K : List Int) (f : Int → Bool) : (K.filter f).length = sm K (fun b => if f b = true then 1 else 0) := by
  induction K with
  | nil => rfl
  | cons c K ih =>
    rw [sm_cons, List.filter_cons]
    cases h : f c with
    | true => rw [if_pos rfl, if_pos rfl, List.length_cons, ih]; omega
    | false => rw [if_neg (by decide), if_neg (by decide), ih]; omega
def ind (M : Int → Option Acc) (c b : Int) : Nat := if und M c b = true then 1 else 0
theorem Wd.ind_step (h : Wd M) {b : Int} {p : Acc} (hb : M b = some p) (c : Int) : ind M c b = (if c = b then 1 else 0) + ind M c p.up := by
  unfold ind
  rw [h.step hb]
  by_cases e : c = b
  · subst e
    rw [h.acyc hb]
    simp
  · have e' : b ≠ c := fun h => e h.symm
    simp [e, e']
theorem ind_no {b : Int} (hb : M b = none) (c : Int) : ind M c b = 0 := by
  unfold ind; rw [und_no hb]; rfl
/-- How many are above an account: its depth. -/
theorem Wd.depth_is (h : Wd M) (hr : ∀ k p, M k = some p → p.up = 0 → p.depth = 1) (hk : Ks M K) : ∀ b p, M b = some p → ((sm K (fun u => ind M u b) : Nat) : Int) = p.depth := by
  refine fun b p hb => h.induct (fun b => ∀ p, M b = some p → ((sm K (fun u => ind M u b) : Nat) : Int) = p.depth) ?_ b p hb p hb
  intro b p hb ih p' hp'
  rw [hb] at hp'
  cases hp'
  have hbK : b ∈ K := (hk.mem b).2 (by rw [hb]; rfl)
  have e : sm K (fun u => ind M u b) = 1 + sm K (fun u => ind M u p.up) := by
    rw [sm_congr (g := fun u => (if u = b then 1 else 0) + ind M u p.up) fun u _ => h.ind_step hb u, sm_add, sm_one hk.up hbK fun _ => 1]
  rw [e]
  cases hm : M p.up with
  | none =>
    have e0 : sm K (fun u => ind M u p.up) = 0 := by
      rw [← sm_zero K]
      exact sm_congr fun u _ => ind_no hm u
    rw [e0]
    rcases h.up b p hb with e2 | ⟨q', e1, e2⟩
    · rw [hr b p hb e2]; rfl
    · rw [hm] at e1; cases e1
  | some r =>
    have h1 := ih r hm r hm
    rcases h.up b p hb with e2 | ⟨q', e1, e2⟩
    · rw [e2, h.zero] at hm; cases hm
    · rw [hm] at e1; cases e1; omega
/-- Those under an account: it, and those under each whose parent it is. -/
theorem Wd.part (h : Wd M) (hk : Ks M K) (k : Int) (hk0 : k ≠ 0) : ∀ b p, M b = some p → ind M k b = (if b = k then 1 else 0) + sm K (fun c => if ((M c).getD Acc.zero).up = k then ind M c b else 0) := by
  refine fun b p hb => h.induct (fun b => ind M k b = (if b = k then 1 else 0) + sm K (fun c => if ((M c).getD Acc.zero).up = k then ind M c b else 0)) ?_ b p hb
  intro b p hb ih
  have hbK : b ∈ K := (hk.mem b).2 (by rw [hb]; rfl)
  have hbu : ((M b).getD Acc.zero).up = p.up := by rw [hb]; rfl
  have e : sm K (fun c => if ((M c).getD Acc.zero).up = k then ind M c b else 0) = (if p.up = k then 1 else 0) + sm K (fun c => if ((M c).getD Acc.zero).up = k then ind M c p.up else 0) := by
    rw [← hbu, ← sm_one hk.up hbK (fun c => if ((M c).getD Acc.zero).up = k then 1 else 0), ← sm_add]
    refine sm_congr fun c _ => ?_
    rw [h.ind_step hb c, hbu]
    by_cases e1 : c = b <;> by_cases e2 : ((M c).getD Acc.zero).up = k <;> simp [e1, e2]
    · subst e1; simp [e2]
    · subst e1; simp [e2]
  rw [e, h.ind_step hb k]
  have e3 : (if k = b then 1 else 0) = (if b = k then 1 else 0 : Nat) := by
    by_cases e : b = k
    · rw [if_pos e, if_pos e.symm]
    · rw [if_neg e, if_neg fun h => e h.symm]
  rw [e3]
  congr 1
  cases hm : M p.up with
  | none =>
    rw [ind_no hm]
    have hne : p.up ≠ k := by
      rcases h.up b p hb with e2 | ⟨q', e1, e2⟩
      · rw [e2]; exact fun h => hk0 h.symm
      · rw [hm] at e1; cases e1
    rw [if_neg hne, sm_congr (g := fun _ => 0) fun c _ => by rw [ind_no hm]; simp, sm_zero]
  | some r => exact ih r hm
theorem Wd.parts (h : Wd M) (hk : Ks M K) {k : Int} {p : Acc} (hp : M k = some p) : (undL M K k).length = 1 + sm K (fun c => if ((M c).getD Acc.zero).up = k then (undL M K c).length else 0) := by
  have hkK : k ∈ K := (hk.mem k).2 (by rw [hp]; rfl)
  have hk0 : k ≠ 0 := by have := (h.code k p hp).1; omega
  have e1 : (undL M K k).length = sm K (fun b => ind M k b) := sm_filter K _
  have e2 : sm K (fun b => ind M k b) = sm K (fun b => (if b = k then 1 else 0) + sm K (fun c => if ((M c).getD Acc.zero).up = k then ind M c b else 0)) := sm_congr fun b hb => by
    have hs := (hk.mem b).1 hb
    cases hm : M b with
    | none => rw [hm] at hs; cases hs
    | some q => exact h.part hk k hk0 b q hm
  rw [e1, e2, sm_add, sm_one hk.up hkK fun _ => 1, sm_swap]
  congr 1
  refine sm_congr fun c _ => ?_
  by_cases e : ((M c).getD Acc.zero).up = k
  · simp only [e, if_true]
    exact (sm_filter K _).symm
  · simp only [e, if_false]
    exact sm_zero K
/-- Rising lists of the same numbers are one. -/
theorem up_unique : ∀ {K L : List Int}, Up K → Up L → (∀ c, c ∈ K ↔ c ∈ L) → K = L
  | [], [], _, _, _ => rfl
  | [], b :: L, _, _, h => absurd ((h b).2 (by simp)) (by simp)
  | a :: K, [], _, _, h => absurd ((h a).1 (by simp)) (by simp)
  | a :: K, b :: L, hK, hL, h => by
    have hp := List.pairwise_cons.1 hK
    have hq := List.pairwise_cons.1 hL
    have e : a = b := by
      rcases List.mem_cons.1 ((h a).1 (by simp)) with e | e
      · exact e
      · rcases List.mem_cons.1 ((h b).2 (by simp)) with e' | e'
        · exact e'.symm
        · have := hp.1 b e'
          have := hq.1 a e
          omega
    subst e
    congr 1
    refine up_unique hp.2 hq.2 fun c => ⟨fun hc => ?_, fun hc => ?_⟩
    · rcases List.mem_cons.1 ((h c).1 (List.mem_cons_of_mem _ hc)) with e | e
      · subst e; have := hp.1 c hc; omega
      · exact e
    · rcases List.mem_cons.1 ((h c).2 (List.mem_cons_of_mem _ hc)) with e | e
      · subst e; have := hq.1 c hc; omega
      · exact e
theorem Ks.unique {K' : List Int} (h : Ks M K) (h' : Ks M K') : K = K' := up_unique h.up h'.up fun c => (h.mem c).trans (h'.mem c).symm
theorem up_low : ∀ {K : List Int} {lo hi : Int}, Up K → (∀ c ∈ K, lo ≤ c ∧ c ≤ hi) → lo ≤ hi + 1 → (K.length : Int) ≤ hi + 1 - lo
  | [], lo, hi, _, _, h => by simp; omega
  | a :: K, lo, hi, hK, h, _ => by
    have hp := List.pairwise_cons.1 hK
    have ha := h a (by simp)
    have := up_low (K := K) (lo := a + 1) (hi := hi) hp.2 (fun c hc => ⟨by have := hp.1 c hc; omega, (h c (List.mem_cons_of_mem _ hc)).2⟩) (by omega)
    simp only [List.length_cons]
    omega
theorem Wd.few (h : Wd M) (hk : Ks M K) : K.length ≤ 9999 := by
  have := up_low (lo := 1) (hi := 9999) hk.up (fun c hc => by
    have hs := (hk.mem c).1 hc
    cases hm : M c with
    | none => rw [hm] at hs; cases hs
    | some p => exact h.code c p hm) (by omega)
  omega
end
end Go.Proofs.Ytnblilonjpfdnaa.Ch
end
section
namespace Go.Proofs.Ytnblilonjpfdnaa.Ch
open Go Go.RowKit Ck Go.Maps
/-- A chart that is right. -/
structure Gm (M : Int → Option Acc) (K : List Int) : Prop where
  ks : Ks M K
  wd : Wd M
  code : ∀ k p, M k = some p → p.code = k
  root : ∀ k p, M k = some p → p.up = 0 → p.depth = 1
  kid : ∀ k p, M k = some p → 0 ≤ p.kids ∧ (p.kids = 0 ↔ ∀ c q, M c = some q → q.up ≠ k)
  cls : ∀ k p q, M k = some p → M p.up = some q → q.cls = p.cls
  shut : ∀ k p q, M k = some p → M p.up = some q → q.shut = true → p.shut = true
  nam : ∀ k p, M k = some p → p.name.size ≤ 60
section
variable {M : Int → Option Acc} {K : List Int}
theorem Gm.empty : Gm (fun _ => none) [] := by
  constructor
  · exact Ks.empty
  · exact Wd.empty
  all_goals (intros; simp_all)
theorem upd_at (M : Int → Option Acc) (k : Int) (x : Acc) : upd M k x k = some x := if_pos rfl
theorem upd_ne (M : Int → Option Acc) {k c : Int} (x : Acc) (h : c ≠ k) : upd M k x c = M c := if_neg h
/-- One account changed, but not its code, parent, class, depth. -/
theorem upd_old {M : Int → Option Acc} {k : Int} {p x : Acc} (hp : M k = some p) {c : Int} {q : Acc} (h : upd M k x c = some q) : ∃ q', M c = some q' ∧ (c = k ∧ q = x ∧ q' = p ∨ c ≠ k ∧ q = q') := by
  by_cases e : c = k
  · subst e; rw [upd_at] at h; cases h; exact ⟨p, hp, .inl ⟨rfl, rfl, rfl⟩⟩
  · rw [upd_ne _ _ e] at h; exact ⟨q, h, .inr ⟨e, rfl⟩⟩
theorem Gm.shutOne (g : Gm M K) {k : Int} {p : Acc} (hp : M k = some p) (hs : ∀ c q, M c = some q → q.up = k → q.shut = true) {K' : List Int} (hk : Ks (upd M k p.shutIt) K') : Gm (upd M k p.shutIt) K' := by
  have hu : ∀ q : Acc, ∀ c, upd M k p.shutIt c = some q → ∃ q', M c = some q' ∧ q'.up = q.up ∧ q'.cls = q.cls ∧ q'.code = q.code ∧ q'.depth = q.depth ∧ q'.kids = q.kids ∧ q'.name = q.name ∧ (q'.shut = true → q.shut = true) ∧ (c = k ∨ q = q') := fun q c hc => by
    obtain ⟨q', h1, h2 | h2⟩ := upd_old hp hc
    · obtain ⟨rfl, rfl, rfl⟩ := h2
      exact ⟨q', h1, rfl, rfl, rfl, rfl, rfl, rfl, fun _ => rfl, .inl rfl⟩
    · obtain ⟨_, rfl⟩ := h2
      exact ⟨q, h1, rfl, rfl, rfl, rfl, rfl, rfl, id, .inr rfl⟩
  have hback : ∀ c q', M c = some q' → ∃ q, upd M k p.shutIt c = some q ∧ q.up = q'.up := fun c q' hc => by
    by_cases e : c = k
    · subst e; rw [hp] at hc; cases hc; exact ⟨_, upd_at _ _ _, rfl⟩
    · exact ⟨q', (upd_ne _ _ e).trans hc, rfl⟩
  refine ⟨hk, g.wd.same hp rfl rfl, fun c q hc => ?_, fun c q hc h0 => ?_, fun c q hc => ?_, fun c q r hc hr => ?_, fun c q r hc hr ht => ?_, fun c q hc => ?_⟩
  · obtain ⟨q', h1, h2, h3, h4, h5, h6, h7, _⟩ := hu q c hc
    rw [← h4]; exact g.code c q' h1
  · obtain ⟨q', h1, h2, h3, h4, h5, h6, h7, _⟩ := hu q c hc
    rw [← h5]; exact g.root c q' h1 (h2.trans h0)
  · obtain ⟨q', h1, h2, h3, h4, h5, h6, h7, _⟩ := hu q c hc
    rw [← h6]
    refine ⟨(g.kid c q' h1).1, (g.kid c q' h1).2.trans ⟨fun h d r hd => ?_, fun h d r hd => ?_⟩⟩
    · obtain ⟨r', k1, k2, _⟩ := hu r d hd
      rw [← k2]; exact h d r' k1
    · obtain ⟨r', k1, k2⟩ := hback d r hd
      rw [← k2]; exact h d r' k1
  · obtain ⟨q', h1, h2, h3, _⟩ := hu q c hc
    obtain ⟨r', k1, k2, k3, _⟩ := hu r q.up hr
    rw [← h3, ← k3]
    exact g.cls c q' r' h1 (by rw [h2]; exact k1)
  · obtain ⟨q', h1, h2, h3, _, _, _, _, h8, h9⟩ := hu q c hc
    obtain ⟨r', k1, k2, k3, _, _, _, _, _, k9⟩ := hu r q.up hr
    rcases k9 with e | e
    · exact h8 (hs c q' h1 (h2.trans e))
    · subst e; exact h8 (g.shut c q' r h1 (by rw [h2]; exact k1) ht)
  · obtain ⟨q', h1, h2, h3, h4, h5, h6, h7, _⟩ := hu q c hc
    rw [← h7]; exact g.nam c q' h1
/-- Those right under an account are under it. -/
theorem Gm.child (g : Gm M K) {k c : Int} {p q : Acc} (hp : M k = some p) (hq : M c = some q) (hu : q.up = k) : c ∈ undL M K k ∧ c ≠ k := by
  have hcK : c ∈ K := (g.ks.mem c).2 (by rw [hq]; rfl)
  refine ⟨List.mem_filter.2 ⟨hcK, ?_⟩, fun e => ?_⟩
  · show und M k c = true
    rw [g.wd.step hq, hu, g.wd.self hp]
    simp
  · have := g.wd.acyc hq
    rw [hu, e, g.wd.self hp] at this
    cases this
theorem Gm.shutM (g : Gm M K) (code : Int) {K' : List Int} (hk : Ks (shutM M K code).1 K') : Gm (shutM M K code).1 K' := by
  unfold Ch.shutM at hk ⊢
  by_cases h1 : (M code).isSome = false
  · rw [if_pos h1] at hk ⊢
    rw [hk.unique g.ks]; exact g
  rw [if_neg h1] at hk ⊢
  by_cases h2 : (undL M K code).any (badAt M code) = true
  · rw [if_pos h2] at hk ⊢
    rw [hk.unique g.ks]; exact g
  rw [if_neg h2] at hk ⊢
  cases hm : M code with
  | none => rw [hm] at h1; exact absurd rfl h1
  | some p =>
    rw [hm] at hk
    refine g.shutOne hm (fun c q hc hu => ?_) hk
    obtain ⟨k1, k2⟩ := g.child hm hc hu
    cases hs : q.shut with
    | true => rfl
    | false =>
      refine absurd (List.any_eq_true.2 ⟨c, k1, ?_⟩) h2
      unfold badAt
      rw [hc]
      simp [hs, k2]
theorem Gm.addM (g : Gm M K) (a : A5) {K' : List Int} (hk : Ks (addM M a).1 K') : Gm (addM M a).1 K' := by
  have hwd := g.wd.add a
  unfold Ch.addM at hk hwd ⊢
  by_cases hv : a.validB = false
  · rw [if_pos hv] at hk ⊢; rw [hk.unique g.ks]; exact g
  rw [if_neg hv] at hk hwd ⊢
  by_cases hs : (M a.code).isSome = true
  · rw [if_pos hs] at hk ⊢; rw [hk.unique g.ks]; exact g
  rw [if_neg hs] at hk hwd ⊢
  have hv' : a.validB = true := by simpa using hv
  unfold A5.validB at hv'
  simp only [Bool.and_eq_true, decide_eq_true_eq] at hv'
  obtain ⟨⟨⟨⟨⟨c1, c2⟩, -⟩, -⟩, c5⟩, c6⟩ := hv'
  have c6' : a.shut = false := by simpa using c6
  have hm : M a.code = none := by simpa using hs
  have hnoup : ∀ c q, M c = some q → q.up ≠ a.code := fun c q hc e => by
    rcases g.wd.up c q hc with e2 | ⟨q', e1, _⟩
    · omega
    · rw [e, hm] at e1; cases e1
  by_cases hu : a.up = 0
  · rw [if_pos hu] at hk hwd ⊢
    dsimp only at hk hwd ⊢
    have h0 : ((M 0).getD Acc.zero).depth = 0 := by rw [g.wd.zero]; rfl
    generalize hx : (⟨a.code, a.up, a.cls, a.name, a.shut, ((M 0).getD Acc.zero).depth + 1, 0⟩ : Acc) = x at hk hwd ⊢
    have x1 : x.code = a.code := by rw [← hx]
    have x2 : x.up = 0 := by rw [← hx]; exact hu
    have x3 : x.depth = 1 := by rw [← hx]; show ((M 0).getD Acc.zero).depth + 1 = 1; rw [h0]; rfl
    have x4 : x.kids = 0 := by rw [← hx]
    have x5 : x.name = a.name := by rw [← hx]
    have hnew : ∀ c q, upd M a.code x c = some q → (c = a.code ∧ q = x) ∨ (c ≠ a.code ∧ M c = some q) := fun c q hc => by
      by_cases e : c = a.code
      · subst e; rw [upd_at] at hc; cases hc; exact .inl ⟨rfl, rfl⟩
      · rw [upd_ne _ _ e] at hc; exact .inr ⟨e, hc⟩
    have hupx : upd M a.code x x.up = none := by rw [x2, upd_ne _ _ (by omega), g.wd.zero]
    refine ⟨hk, hwd, fun c q hc => ?_, fun c q hc h0 => ?_, fun c q hc => ?_, fun c q r hc hr => ?_, fun c q r hc hr ht => ?_, fun c q hc => ?_⟩
    · rcases hnew c q hc with ⟨rfl, rfl⟩ | ⟨_, h⟩
      · exact x1
      · exact g.code c q h
    · rcases hnew c q hc with ⟨rfl, rfl⟩ | ⟨_, h⟩
      · exact x3
      · exact g.root c q h h0
    · rcases hnew c q hc with ⟨rfl, rfl⟩ | ⟨hne, h⟩
      · refine ⟨by omega, fun _ d r hd => ?_, fun _ => x4⟩
        rcases hnew d r hd with ⟨rfl, rfl⟩ | ⟨_, h⟩
        · rw [x2]; omega
        · exact hnoup d r h
      · refine ⟨(g.kid c q h).1, (g.kid c q h).2.trans ⟨fun h' d r hd => ?_, fun h' d r hd => ?_⟩⟩
        · rcases hnew d r hd with ⟨rfl, rfl⟩ | ⟨_, h2⟩
          · rw [x2]; have := g.wd.code c q h; omega
          · exact h' d r h2
        · exact h' d r ((upd_ne _ _ (fun e => by rw [e, hm] at hd; cases hd)).trans hd)
    · rcases hnew c q hc with ⟨rfl, rfl⟩ | ⟨_, h⟩
      · rw [hupx] at hr; cases hr
      · rcases hnew _ r hr with ⟨e, _⟩ | ⟨_, h2⟩
        · exact absurd e (hnoup c q h)
        · exact g.cls c q r h h2
    · rcases hnew c q hc with ⟨rfl, rfl⟩ | ⟨_, h⟩
      · rw [hupx] at hr; cases hr
      · rcases hnew _ r hr with ⟨e, _⟩ | ⟨_, h2⟩
        · exact absurd e (hnoup c q h)
        · exact g.shut c q r h h2 ht
    · rcases hnew c q hc with ⟨rfl, rfl⟩ | ⟨_, h⟩
      · rw [x5]; exact c5
      · exact g.nam c q h
  rw [if_neg hu] at hk hwd ⊢
  cases hp : M a.up with
  | none => simp only [hp] at hk hwd ⊢; rw [hk.unique g.ks]; exact g
  | some p =>
    simp only [hp] at hk hwd ⊢
    by_cases hbad : p.shut = true ∨ p.cls ≠ a.cls ∨ 8 ≤ p.depth
    · rw [if_pos hbad] at hk ⊢; rw [hk.unique g.ks]; exact g
    rw [if_neg hbad] at hk hwd ⊢
    have b1 : p.shut = false := by cases h : p.shut with
      | false => rfl
      | true => exact absurd (.inl h) hbad
    have b2 : p.cls = a.cls := Decidable.byContradiction fun h => hbad (.inr (.inl h))
    generalize hy : (⟨p.code, p.up, p.cls, p.name, p.shut, p.depth, p.kids + 1⟩ : Acc) = y at hk hwd ⊢
    generalize hx : (⟨a.code, a.up, a.cls, a.name, a.shut, p.depth + 1, 0⟩ : Acc) = x at hk hwd ⊢
    have x1 : x.code = a.code := by rw [← hx]
    have x2 : x.up = a.up := by rw [← hx]
    have x3 : x.depth = p.depth + 1 := by rw [← hx]
    have x4 : x.kids = 0 := by rw [← hx]
    have x5 : x.name = a.name := by rw [← hx]
    have x6 : x.cls = a.cls := by rw [← hx]
    have y1 : y.code = p.code := by rw [← hy]
    have y2 : y.up = p.up := by rw [← hy]
    have y3 : y.depth = p.depth := by rw [← hy]
    have y4 : y.kids = p.kids + 1 := by rw [← hy]
    have y5 : y.name = p.name := by rw [← hy]
    have y6 : y.cls = p.cls := by rw [← hy]
    have y7 : y.shut = p.shut := by rw [← hy]
    have hne : a.code ≠ a.up := fun e => by rw [e, hp] at hm; cases hm
    -- what an account of the new chart is
    have hnew : ∀ c q, upd (upd M a.up y) a.code x c = some q → (c = a.code ∧ q = x) ∨ (c ≠ a.code ∧ ∃ q', M c = some q' ∧ q.code = q'.code ∧ q.up = q'.up ∧ q.depth = q'.depth ∧ q.name = q'.name ∧ q.cls = q'.cls ∧ q.shut = q'.shut ∧ (c = a.up ∧ q.kids = q'.kids + 1 ∨ c ≠ a.up ∧ q.kids = q'.kids)) := fun c q hc => by
      by_cases e : c = a.code
      · subst e; rw [upd_at] at hc; cases hc; exact .inl ⟨rfl, rfl⟩
      · rw [upd_ne _ _ e] at hc
        refine .inr ⟨e, ?_⟩
        by_cases e2 : c = a.up
        · subst e2; rw [upd_at] at hc; cases hc; exact ⟨p, hp, y1, y2, y3, y5, y6, y7, .inl ⟨rfl, y4⟩⟩
        · rw [upd_ne _ _ e2] at hc; exact ⟨q, hc, rfl, rfl, rfl, rfl, rfl, rfl, .inr ⟨e2, rfl⟩⟩
    have hback : ∀ c q', M c = some q' → ∃ q, upd (upd M a.up y) a.code x c = some q ∧ q.up = q'.up := fun c q' hc => by
      have e : c ≠ a.code := fun e => by rw [e, hm] at hc; cases hc
      rw [upd_ne _ _ e]
      by_cases e2 : c = a.up
      · subst e2; rw [hp] at hc; cases hc; exact ⟨y, upd_at _ _ _, y2⟩
      · exact ⟨q', (upd_ne _ _ e2).trans hc, rfl⟩
    have hupa : ∀ r, upd (upd M a.up y) a.code x a.up = some r → r = y := fun r hr => by
      rw [upd_ne _ _ hne.symm, upd_at] at hr; cases hr; rfl
    refine ⟨hk, hwd, fun c q hc => ?_, fun c q hc h0 => ?_, fun c q hc => ?_, fun c q r hc hr => ?_, fun c q r hc hr ht => ?_, fun c q hc => ?_⟩
    · rcases hnew c q hc with ⟨rfl, rfl⟩ | ⟨_, q', h, k1, _⟩
      · exact x1
      · rw [k1]; exact g.code c q' h
    · rcases hnew c q hc with ⟨rfl, rfl⟩ | ⟨_, q', h, k1, k2, k3, _⟩
      · exact absurd (x2 ▸ h0) hu
      · rw [k3]; exact g.root c q' h (k2 ▸ h0)
    · rcases hnew c q hc with ⟨rfl, rfl⟩ | ⟨_, q', h, k1, k2, k3, k4, k5, k6, k7⟩
      · refine ⟨by omega, fun _ d r hd => ?_, fun _ => x4⟩
        rcases hnew d r hd with ⟨rfl, rfl⟩ | ⟨_, r', h2, _, j2, _⟩
        · rw [x2]; exact fun e => hne e.symm
        · rw [j2]; exact hnoup d r' h2
      · have h0 := g.kid c q' h
        rcases k7 with ⟨e, k7⟩ | ⟨e, k7⟩
        · refine ⟨by omega, fun hz => by omega, fun hn => ?_⟩
          exact absurd (x2.trans e.symm) (hn a.code x (upd_at _ _ _))
        · rw [k7]
          refine ⟨h0.1, h0.2.trans ⟨fun h' d r hd => ?_, fun h' d r hd => ?_⟩⟩
          · rcases hnew d r hd with ⟨rfl, rfl⟩ | ⟨_, r', h2, _, j2, _⟩
            · rw [x2]; exact fun e' => e e'.symm
            · rw [j2]; exact h' d r' h2
          · obtain ⟨r', j1, j2⟩ := hback d r hd
            rw [← j2]; exact h' d r' j1
    · rcases hnew c q hc with ⟨rfl, rfl⟩ | ⟨_, q', h, k1, k2, k3, k4, k5, k6, k7⟩
      · rw [x2] at hr
        rw [hupa r hr, y6, b2, x6]
      · rw [k2] at hr
        rcases hnew _ r hr with ⟨e, _⟩ | ⟨_, r', h2, _, _, _, _, j5, _⟩
        · exact absurd e (hnoup c q' h)
        · rw [k5, j5]; exact g.cls c q' r' h h2
    · rcases hnew c q hc with ⟨rfl, rfl⟩ | ⟨_, q', h, k1, k2, k3, k4, k5, k6, k7⟩
      · rw [x2] at hr
        rw [hupa r hr, y7, b1] at ht
        cases ht
      · rw [k2] at hr
        rcases hnew _ r hr with ⟨e, _⟩ | ⟨_, r', h2, _, _, _, _, _, j6, _⟩
        · exact absurd e (hnoup c q' h)
        · rw [k6]; exact g.shut c q' r' h h2 (j6 ▸ ht)
    · rcases hnew c q hc with ⟨rfl, rfl⟩ | ⟨_, q', h, k1, k2, k3, k4, _⟩
      · rw [x5]; exact c5
      · rw [k4]; exact g.nam c q' h
/-- Leaf: nobody else is under it. -/
theorem Gm.leaf (g : Gm M K) (k : Int) : leafM M k = decide ((undL M K k).length = 1) := by
  unfold leafM
  cases hm : M k with
  | none => rw [undL_none hm]; rfl
  | some p =>
    show (true && decide (p.kids = 0)) = _
    rw [Bool.true_and, g.wd.parts g.ks hm]
    have h0 := g.kid k p hm
    by_cases e : p.kids = 0
    · rw [sm_congr (g := fun _ => 0), sm_zero]
      · simp [e]
      · intro c hc
        have hs := (g.ks.mem c).1 hc
        cases hq : M c with
        | none => rw [hq] at hs; cases hs
        | some q => exact if_neg (h0.2.1 e c q hq)
    · have : ∃ c q, M c = some q ∧ q.up = k := Classical.byContradiction fun hn => e (h0.2.2 fun c q hc hu => hn ⟨c, q, hc, hu⟩)
      obtain ⟨c, q, hc, hu⟩ := this
      have hcK : c ∈ K := (g.ks.mem c).2 (by rw [hc]; rfl)
      have h1 : 1 ≤ (undL M K c).length := List.length_pos_of_mem (List.mem_filter.2 ⟨hcK, g.wd.self hc⟩)
      have h2 : (if ((M c).getD Acc.zero).up = k then (undL M K c).length else 0) ≤ sm K (fun c => if ((M c).getD Acc.zero).up = k then (undL M K c).length else 0) := by
        have : ∀ (K : List Int) (f : Int → Nat), c ∈ K → f c ≤ sm K f := fun K f => by
          induction K with
          | nil => intro h; cases h
          | cons d K ih =>
            intro h
            rw [sm_cons]
            rcases List.mem_cons.1 h with rfl | h
            · omega
            · have := ih h; omega
        exact this K (fun c => if ((M c).getD Acc.zero).up = k then (undL M K c).length else 0) hcK
      rw [if_pos (show ((M c).getD Acc.zero).up = k by rw [hc]; exact hu)] at h2
      rw [decide_eq_false e, decide_eq_false (by omega)]
end
end Go.Proofs.Ytnblilonjpfdnaa.Ch
end
section
namespace Go.Proofs.Ytnblilonjpfdnaa.Ch
open Go Go.RowKit Ck Go.Maps
theorem lst_len (M : Int → Option Acc) (K : List Int) : (lst M K).length = K.length := by unfold lst; simp
/-- An account in a row. -/
structure Five (w : World) (b o : Nat) (k u c : Int) (n : ByteArray) (s : Bool) : Prop where
  c0 : w.cell? ⟨b, o, none⟩ = some (.int .i64 k)
  c1 : w.cell? ⟨b, o + 1, none⟩ = some (.int .i64 u)
  c2 : w.cell? ⟨b, o + 2, none⟩ = some (.int .u8 c)
  c3 : w.cell? ⟨b, o + 3, none⟩ = some (.string n)
  c4 : w.cell? ⟨b, o + 4, none⟩ = some (.bool s)
theorem Acs.five {w : World} {a : Option Addr} {A : List A5} (h : Acs w a A) {i : Nat} (hi : i < A.length) : ∃ b off, a = some ⟨b, off, none⟩ ∧ Five w b (off + i * 5) A[i].code A[i].up A[i].cls A[i].name A[i].shut := by
  obtain ⟨b, off, ha, _, hc⟩ := h i hi
  exact ⟨b, off, ha, hc 0 _ rfl, hc 1 _ rfl, hc 2 _ rfl, hc 3 _ rfl, hc 4 _ rfl⟩
section
variable {w : World} {a : Option Addr} {M : Int → Option Acc} {K : List Int}
theorem Gm.at' (g : Gm M K) {i : Nat} (hi : i < K.length) : ∃ p, M K[i] = some p ∧ (lst M K)[i]'(by rw [lst_len]; exact hi) = p.told ∧ p.code = K[i] := by
  have hs := (g.ks.mem _).1 (List.getElem_mem hi)
  cases hm : M K[i] with
  | none => rw [hm] at hs; cases hs
  | some p =>
    refine ⟨p, rfl, ?_, g.code _ p hm⟩
    unfold lst
    rw [List.getElem_map, hm]
    rfl
theorem Gm.five (g : Gm M K) (h : Acs w a (lst M K)) {i : Nat} (hi : i < K.length) : ∃ b off p, a = some ⟨b, off, none⟩ ∧ M K[i] = some p ∧ Five w b (off + i * 5) K[i] p.up p.cls p.name p.shut := by
  obtain ⟨p, h1, h2, h3⟩ := g.at' hi
  obtain ⟨b, off, ha, hf⟩ := h.five (i := i) (by rw [lst_len]; exact hi)
  rw [h2] at hf
  refine ⟨b, off, p, ha, h1, ?_⟩
  rw [← h3]
  exact hf
def AtRes (K : List Int) (code : Int) (w : World) (e : Ending) (w' : World) : Prop := w = w' ∧ ∃ z : Int, e = .returned (.int .i64 z) ∧ (z = -1 ∧ code ∉ K ∨ ∃ (i : Nat) (h : i < K.length), K[i] = code ∧ z = (i : Int))
set_option maxRecDepth 100000 in
set_option maxHeartbeats 1600000 in
theorem at_c (g : Gm M K) (cap : Nat) (code : Int) (h : Acs w a (lst M K)) : Calls Try.prog 51 #[.slice a K.length cap, .int .i64 code] w (AtRes K code w) := by
  have G := Lib.hid g
  have H := Lib.hid h
  have hK9 := g.wd.few g.ks
  clear g h
  go_enter Try.func51, Try.ntmps51
  go_wp2_with fail
  go_loopg [5] K.length (fun kx s5 wr => ∃ i : Nat, s5 = .int .i64 (i : Int) ∧ i ≤ K.length ∧ w = wr ∧ Hid (∀ j (h : j < K.length), j < i → K[j] ≠ code) ∧ K.length ≤ i + kx)
  case atStart => exact ⟨0, rfl, Nat.zero_le _, rfl, fun j _ hj => by omega, by omega⟩
  case round =>
    obtain ⟨i, rfl, hi9, rfl, HJ, hkx⟩ := hrel
    by_cases hlt : i < K.length
    · obtain ⟨b, off, p, rfl, hp, hf⟩ := G.out.five H.out hlt
      have c0 := hf.c0
      have j0 : (0 : Int) ≤ (i : Int) := by omega
      have j1 : (i : Int) < (K.length : Int) := by omega
      obtain ⟨k, hk⟩ : ∃ k, k = K[i] := ⟨_, rfl⟩
      rw [← hk] at c0
      have HK := Lib.hid hk
      clear hf hp hk
      by_cases he : k = code
      · subst he
        go_wp2_with fail
        go_ret
        exact ⟨rfl, _, rfl, .inr ⟨i, hlt, HK.out.symm, rfl⟩⟩
      · have be : (k == code) = false := by simpa using he
        have HJ2 : Hid (∀ j (h : j < K.length), j < i + 1 → K[j] ≠ code) := fun j hj hji => by
          by_cases e : j = i
          · subst e; rw [← HK.out]; exact he
          · exact HJ.out j hj (by omega)
        clear he HJ HK
        go_wp2_with fail
        go_roundg (K.length - (i + 1))
        case measure => omega
        case rel => exact ⟨i + 1, by simp, by omega, rfl, HJ2, by omega⟩
    · obtain rfl : i = K.length := by omega
      clear hkx hlt hi9
      go_wp2_with fail
      go_ret
      exact ⟨rfl, _, rfl, .inl ⟨rfl, fun hm => by
        obtain ⟨j, hj, e⟩ := List.getElem_of_mem hm
        exact HJ.out j hj hj e⟩⟩
set_option maxRecDepth 100000 in
set_option maxHeartbeats 1600000 in
theorem is_ref (g : Gm M K) (cap : Nat) (code u : Int) (h : Acs w a (lst M K)) : Calls Try.prog 90 #[.slice a K.length cap, .int .i64 code, .int .i64 u] w fun e w' => e = .returned (.bool (und M u code)) ∧ w = w' := by
  have G := Lib.hid g
  have H := Lib.hid h
  have KA : Hid (∀ code, Calls Try.prog 51 #[.slice a K.length cap, .int .i64 code] w (AtRes K code w)) := fun code => at_c g cap code h
  obtain ⟨r, hr⟩ : ∃ r, r = und M u code := ⟨_, rfl⟩
  rw [← hr]
  have hK9 := g.wd.few g.ks
  have HR := Lib.hid hr
  clear g h hr
  go_enter Try.func90, Try.ntmps90
  go_wp2_with fail
  go_loopg [1] 8 (fun kx s1 wr => ∃ b : Int, s1 = .int .i64 b ∧ w = wr ∧ Hid (und M u b = r) ∧ Hid (∀ p, M b = some p → p.depth ≤ kx))
  case atStart => exact ⟨code, rfl, rfl, HR.out.symm, fun p hp => (G.out.wd.deep _ p hp).2⟩
  case round =>
    obtain ⟨b, rfl, rfl, HU, HD⟩ := hrel
    go_wp2_with fail
    refine (KA.out b).mono ?_
    rintro e w1 ⟨rfl, z, rfl, hz⟩
    rcases hz with ⟨rfl, hn⟩ | ⟨i, hi, hkb, rfl⟩
    · have hmn : M b = none := by
        cases hm : M b with
        | none => rfl
        | some p => exact absurd ((G.out.ks.mem b).2 (by rw [hm]; rfl)) hn
      have hrf : r = false := by rw [← HU.out]; exact und_no hmn u
      subst hrf
      clear hn hmn
      go_wp2_with fail
      go_ret
      exact ⟨rfl, rfl⟩
    · obtain ⟨ab, off, p, rfl, hp, hf⟩ := G.out.five H.out hi
      rw [hkb] at hp
      have HI := Lib.hid hi
      have c1 := hf.c1
      have hstep := G.out.wd.step hp u
      rw [HU.out] at hstep
      have hd := G.out.wd.deep _ p hp
      have hd2 := HD.out p hp
      have HF : Hid (∀ q, M p.up = some q → q.depth ≤ ((gk - 1 : Nat) : Int)) := fun q hq => by
        rcases G.out.wd.up _ p hp with e2 | ⟨q', e1, e2⟩
        · rw [e2, G.out.wd.zero] at hq; cases hq
        · rw [hq] at e1; cases e1; omega
      have hgk : 1 ≤ gk := by omega
      obtain ⟨pu, hpu⟩ : ∃ pu, pu = p.up := ⟨_, rfl⟩
      rw [← hpu] at c1 hstep HF
      have KA2 := Lib.hid (KA.out b)
      have HK := Lib.hid hkb
      clear hp hf hd hd2 HU HD hkb hpu HR
      by_cases he : b = u
      · have hrf : r = true := by rw [hstep, he]; simp
        subst hrf
        subst he
        clear hstep
        go_wp2_with fail
        go_ret
        exact ⟨rfl, rfl⟩
      · have be : (b == u) = false := by simpa using he
        have HS : Hid (und M u pu = r) := by show _ = _; rw [hstep]; simp [he]
        clear hstep he
        go_wp2_with fail
        refine KA2.out.mono ?_
        rintro e w1 ⟨rfl, z, rfl, hz⟩
        have hz' : z = (i : Int) := by
          rcases hz with ⟨_, hn⟩ | ⟨j, hj, e1, rfl⟩
          · exact absurd (HK.out ▸ List.getElem_mem HI.out) hn
          · have hup := G.out.ks.up
            rw [← HK.out] at e1
            rcases Nat.lt_trichotomy i j with h | h | h
            · have := up_le hup h hj; omega
            · rw [h]
            · have := up_le hup h HI.out; omega
        subst hz'
        clear hz
        have j0 : (0 : Int) ≤ (i : Int) := by omega
        have j1 : (i : Int) < (K.length : Int) := by omega
        go_wp2_with fail
        go_roundg (gk - 1)
        case measure => omega
        case rel => exact ⟨pu, rfl, rfl, HS, HF⟩
end
end Go.Proofs.Ytnblilonjpfdnaa.Ch
end
