/- Package chart: accounts in rows; All. -/
import Derived.Test.YtialclecoamobaaChUnder
namespace Go.Proofs.Ytialclecoamobaa.Ch
open Go Go.RowKit Ck Go.Maps
abbrev TAs : TypeId := 25
abbrev TAc : TypeId := 27
theorem infoAc : (Try.prog.info? TAc).map (fun i => (i.size, i.bytes)) = some (5, 48) := by kernel_rfl
theorem zeroAc : ((Try.prog.info? TAc).bind (·.zero)).map (fun z => z.cells.size) = some 5 := by kernel_rfl
theorem info_ac : ∃ i z, Try.prog.info? TAc = some i ∧ i.zero = some z ∧ i.size = 5 ∧ i.bytes = 48 ∧ z.cells.size = 5 := by
  have h := infoAc
  have h2 := zeroAc
  cases hi : Try.prog.info? TAc with
  | none => rw [hi] at h; cases h
  | some i =>
    rw [hi] at h h2
    simp only [Option.map_some, Option.some.injEq, Prod.mk.injEq, Option.bind_some] at h h2
    cases hz : i.zero with
    | none => rw [hz] at h2; cases h2
    | some z =>
      rw [hz] at h2
      simp only [Option.map_some, Option.some.injEq] at h2
      exact ⟨i, z, rfl, hz, h.1, h.2, h2⟩
def flatA (A : List A5) : List Value := A.flatMap A5.cells
theorem flatA_snoc (A : List A5) (x : A5) : flatA (A ++ [x]) = flatA A ++ x.cells := by simp [flatA]
theorem flatA_app (A B : List A5) : flatA (A ++ B) = flatA A ++ flatA B := by simp [flatA]
theorem flatA_len (A : List A5) : (flatA A).length = A.length * 5 := by
  induction A with
  | nil => rfl
  | cons x A ih =>
    show (x.cells ++ flatA A).length = _
    rw [List.length_append, ih, List.length_cons]
    show 5 + A.length * 5 = _
    omega
theorem flatA_at (A : List A5) : ∀ (j : Nat) (hj : j < A.length) (i : Nat) (v : Value), A[j].cells[i]? = some v → (flatA A)[j * 5 + i]? = some v := by
  induction A with
  | nil => intro j hj; simp at hj
  | cons x A ih =>
    intro j hj i v hv
    show (x.cells ++ flatA A)[j * 5 + i]? = some v
    have hi := (List.getElem?_eq_some_iff.1 hv).1
    have h6 : ∀ y : A5, y.cells.length = 5 := fun _ => rfl
    rw [h6] at hi
    cases j with
    | zero => rw [List.getElem?_append_left (by rw [h6]; omega), Nat.zero_mul, Nat.zero_add]; exact hv
    | succ j =>
      rw [List.getElem?_append_right (by rw [h6]; omega), h6, show (j + 1) * 5 + i - 5 = j * 5 + i by omega]
      exact ih j (by simpa using hj) i v hv
/-- Accounts in memory. -/
def Acs (w : World) (a : Option Addr) (A : List A5) : Prop := ∀ j (h : j < A.length), ∃ b off, a = some ⟨b, off, none⟩ ∧ b < w.heap.size ∧ ∀ i v, A[j].cells[i]? = some v → w.cell? ⟨b, off + j * 5 + i, none⟩ = some v
theorem Acs.later {w w' : World} {a : Option Addr} {A : List A5} (h : Acs w a A) (hb : Below w.heap.size w w') : Acs w' a A := fun j hj => by
  obtain ⟨b, off, ha, hlt, hc⟩ := h j hj
  exact ⟨b, off, ha, Nat.lt_of_lt_of_le hlt hb.size, fun i v hv => by rw [hb.cell (by simpa using hlt)]; exact hc i v hv⟩
/-- A row of accounts of one's own. -/
theorem acs_own {w : World} {base n : Nat} {v : Value} {A : List A5} (h : w.ownsRow base TAc 5 v n (flatA A)) (hn : n = A.length) : ∃ a cap, v = .slice a A.length cap ∧ Acs w a A ∧ A.length ≤ cap := by
  subst hn
  rcases id h.2 with ⟨rfl, h0⟩ | ⟨g, cap, cur, rfl, _, hg, hc, _, _, ht⟩
  · refine ⟨none, 0, ?_, fun j hj => by omega, by omega⟩
    simp only [Value.slice.injEq, true_and, and_true]
    omega
  · refine ⟨_, cap, rfl, fun j hj => ⟨g, 0, rfl, (Array.getElem?_eq_some_iff.1 hg).1, fun i u hu => ?_⟩, hc⟩
    have h1 := flatA_at A j hj i u hu
    have hi := (List.getElem?_eq_some_iff.1 hu).1
    have h5 : A[j].cells.length = 5 := rfl
    have e : cur.toList[j * 5 + i]? = some u := by
      have := congrArg (fun l => l[j * 5 + i]?) ht
      rw [List.getElem?_take_of_lt (by omega)] at this
      rw [this]; exact h1
    simp only [World.cell?, hg, Nat.zero_add]
    simpa using e
/-- A new list of accounts. -/
def AccsRes (A : List A5) (w : World) (e : Ending) (w' : World) : Prop := ∃ v, e = .returned v ∧ w'.ownsRow w.heap.size TAc 5 v A.length (flatA A) ∧ Below w.heap.size w w'
/-- A chart's accounts, by their codes. -/
def lst (M : Int → Option Acc) (K : List Int) : List A5 := K.map fun k => ((M k).getD Acc.zero).told
theorem new_five (w : World) (a b c d e : Value) (t : TypeId) : ∀ j u, [a, b, c, d, e][j]? = some u → (w.alloc (.cells #[a, b, c, d, e] t)).cell? ((⟨w.heap.size, 0, none⟩ : Addr).add j) = some u := by
  intro j u hj
  have := (Rw.new w [a, b, c, d, e] t).cell (0 + j)
  rw [Nat.zero_add, hj] at this
  rw [← this]
  by_cases h0 : j = 0
  · subst h0; rfl
  · simp [Addr.add, h0]
section
variable {w : World} {c bm n : Nat} {tv : Value} {M : Int → Option Acc} {K : List Int}
set_option maxRecDepth 100000 in
theorem all_nil (w : World) : Calls Try.prog 15 #[.pointer none] w fun e w' => e = .returned (.slice none 0 0) ∧ Below w.heap.size w w' := by
  have KI := Lib.hid is_nil
  go_enter Try.func15, Try.ntmps15
  go_wp2_with fail
  refine (KI.out _).mono ?_
  rintro e w' ⟨rfl, rfl⟩
  go_wp2_with fail
  go_ret
  exact ⟨rfl, Below.refl _ _⟩
set_option maxRecDepth 100000 in
theorem all_zero (h : Rw w c TCh [.map none, .slice none 0 0]) : Calls Try.prog 15 #[.pointer (some ⟨c, 0, none⟩)] w fun e w' => e = .returned (.slice none 0 0) ∧ Below w.heap.size w w' := by
  have KI := Lib.hid (is_zero h)
  clear h
  go_enter Try.func15, Try.ntmps15
  go_wp2_with fail
  refine KI.out.mono ?_
  rintro e w' ⟨rfl, rfl⟩
  go_wp2_with fail
  go_ret
  exact ⟨rfl, Below.refl _ _⟩
theorem own_form5 {base : Nat} {u : World} {v : Value} {N : Nat} {xs : List Value} (h : u.ownsRow base TAc 5 v N xs) : ∃ a cap, v = .slice a N cap := by
  rcases h.2 with ⟨rfl, h0⟩ | ⟨g, cap, cur, rfl, _⟩
  · exact ⟨none, 0, by rw [h0]⟩
  · exact ⟨_, cap, rfl⟩
set_option maxRecDepth 100000 in
set_option maxHeartbeats 3200000 in
theorem all_c (h : At w c bm tv n M K) (hw : Wd M) (hK9 : K.length ≤ 1000000) : Calls Try.prog 15 #[.pointer (some ⟨c, 0, none⟩)] w (AccsRes (lst M K) w) := by
  have H := Lib.hid h
  have HW := Lib.hid hw
  obtain ⟨i0, z0, hi0, hz0, hz1, hz2, hz3⟩ := info_ac
  have KI := Lib.hid (is_c h)
  have KK := Lib.hid (keys_c h)
  obtain ⟨ta, tc, rfl⟩ := own_form h.own
  clear h hw
  go_enter Try.func15, Try.ntmps15
  go_wp2_with fail
  refine KI.out.mono ?_
  rintro e w' ⟨rfl, rfl⟩
  go_wp2_with fail
  refine KK.out.mono ?_
  rintro e w' ⟨rfl, rfl⟩
  go_wp2_with fail
  clear KI KK
  go_loopg [3, 16] K.length (fun kx s3 s16 wr => ∃ (i : Nat) (vv : Value), s16 = .int .i64 (i : Int) ∧ vv = s3 ∧ i ≤ K.length ∧ Hid (wr.ownsRow w.heap.size TAc 5 vv i (flatA (lst M (K.take i)))) ∧ Hid (Below w.heap.size w wr) ∧ K.length ≤ i + kx)
  case atStart => exact ⟨0, _, rfl, rfl, Nat.zero_le _, World.ownsRow_nil _ _ _ _, Below.refl _ _, by omega⟩
  case round =>
    obtain ⟨i, vv, rfl, hvv, hi9, HO, HBr, hkx⟩ := hrel
    obtain ⟨a9, c9, rfl⟩ := own_form5 HO.out
    subst hvv
    by_cases hlt : i < K.length
    · have HR := Lib.hid (H.out.later HBr.out)
      obtain ⟨ga, cap, hsl, hc⟩ := own_at HR.out.own hlt
      cases hsl
      obtain ⟨b, hb⟩ : ∃ b, b = K[i] := ⟨_, rfl⟩
      rw [← hb] at hc
      have hmem : (M b).isSome = true := (HR.out.ks.mem b).1 (by rw [hb]; exact List.getElem_mem hlt)
      have hIb : I64 b := by
        cases hm : M b with
        | none => rw [hm] at hmem; cases hmem
        | some p => have := HW.out.code b p hm; unfold I64; omega
      have HT : Hid (flatA (lst M (K.take (i + 1))) = flatA (lst M (K.take i)) ++ ((M b).getD Acc.zero).told.cells) := by
        show _ = _
        rw [List.take_succ_eq_append_getElem hlt, ← hb]
        unfold lst
        rw [List.map_append, List.map_singleton, flatA_snoc]
      have KG := Lib.hid (get_c HR.out b hIb)
      unfold GetRes at KG
      obtain ⟨x, hx⟩ : ∃ x, x = (M b).getD Acc.zero := ⟨_, rfl⟩
      rw [← hx, hmem] at KG
      rw [← hx] at HT
      have j0 : (0 : Int) ≤ (i : Int) := by omega
      have j1 : (i : Int) < (K.length : Int) := by omega
      clear hb hmem hIb hx
      obtain ⟨xa, xb, xc, xs, xd, xe, xf⟩ := x
      unfold Acc.val at KG
      simp only at KG
      go_wp2_with fail
      refine KG.out.mono ?_
      rintro e u ⟨rfl, hb5⟩
      have HO5 := Lib.hid (own_later HO.out hb5)
      have HB5 : Hid (Below w.heap.size w u) := HBr.out.trans (hb5.mono HBr.out.size)
      clear hb5 KG hc
      have hs5 := HB5.out.size
      go_upto_region 8 with (fail)
      have HB6 : Hid (Below w.heap.size w (u.alloc (.cells #[.int .i64 xa, .int .i64 xb, .int .u8 xc, .string xs, .bool xd, .int .i64 xe, .int .i64 xf] TAcc))) := HB5.out.alloc hs5 _
      have HO6 : Hid ((u.alloc (.cells #[.int .i64 xa, .int .i64 xb, .int .u8 xc, .string xs, .bool xd, .int .i64 xe, .int .i64 xf] TAcc)).ownsRow w.heap.size TAc 5 (.slice a9 i c9) i (flatA (lst M (K.take i)))) := HO5.out.alloc _
      have RX : Hid (Rw (u.alloc (.cells #[.int .i64 xa, .int .i64 xb, .int .u8 xc, .string xs, .bool xd, .int .i64 xe, .int .i64 xf] TAcc)) u.heap.size TAcc [.int .i64 xa, .int .i64 xb, .int .u8 xc, .string xs, .bool xd, .int .i64 xe, .int .i64 xf]) := Rw.new u [.int .i64 xa, .int .i64 xb, .int .u8 xc, .string xs, .bool xd, .int .i64 xe, .int .i64 xf] TAcc
      obtain ⟨bx, hbx⟩ : ∃ bx, bx = u.heap.size := ⟨_, rfl⟩
      generalize u.alloc (.cells #[.int .i64 xa, .int .i64 xb, .int .u8 xc, .string xs, .bool xd, .int .i64 xe, .int .i64 xf] TAcc) = W1 at HB6 HO6 RX ⊢
      rw [← hbx] at RX ⊢
      clear hbx HB5 HO5 hs5
      have s0 : W1.cell? ⟨bx, 0, none⟩ = some (.int .i64 xa) := RX.out.cell 0
      have s1 : W1.cell? ⟨bx, 1, none⟩ = some (.int .i64 xb) := RX.out.cell 1
      have s2 : W1.cell? ⟨bx, 2, none⟩ = some (.int .u8 xc) := RX.out.cell 2
      have s3 : W1.cell? ⟨bx, 3, none⟩ = some (.string xs) := RX.out.cell 3
      have s4 : W1.cell? ⟨bx, 4, none⟩ = some (.bool xd) := RX.out.cell 4
      have hs6 := HB6.out.size
      go_wp2_with (at_builtin; refine wpList_append_own_at _ rfl _ _ TAs rfl w.heap.size TAc i0 z0 5 48 Try.underlying25 hi0 hz0 hz1 hz2 hz3 (by decide) _ _ _ rfl (HO6.out.alloc _) ⟨W1.heap.size, 0, none⟩ 1 1 [.int .i64 xa, .int .i64 xb, .int .u8 xc, .string xs, .bool xd] rfl rfl (new_five _ _ _ _ _ _ _) (by simp [Value.oneCell']) (by unfold maxLen; omega) (by omega) (by simp; omega) ?_)
      intro v' w6 hown hgrow hnil hat
      obtain ⟨a8, c8, rfl⟩ := own_form5 hown
      have HB7 : Hid (Below w.heap.size w w6) := (HB6.out.alloc hs6 _).grown hgrow (by simp; omega) (fun j hj => (HO6.out.lt j hj).1)
      have HO7 : Hid (w6.ownsRow w.heap.size TAc 5 (.slice a8 (i + 1) c8) (i + 1) (flatA (lst M (K.take (i + 1))))) := by
        show World.ownsRow _ _ _ _ _ _ _
        rw [HT.out]
        exact hown
      clear hown hgrow hnil hat
      go_wp2_with fail
      go_roundg (K.length - (i + 1))
      case measure => omega
      case rel => exact ⟨i + 1, _, by simp, rfl, by omega, HO7, HB7, by omega⟩
    · obtain rfl : i = K.length := by omega
      have HO9 : Hid (wr.ownsRow w.heap.size TAc 5 (.slice a9 K.length c9) (lst M K).length (flatA (lst M K))) := by
        have e : (lst M K).length = K.length := by unfold lst; simp
        rw [e]
        have := HO.out
        rwa [List.take_length] at this
      clear hkx hlt hi9
      go_wp2_with fail
      go_ret
      exact ⟨_, rfl, HO9.out, HBr.out⟩
end
end Go.Proofs.Ytialclecoamobaa.Ch
