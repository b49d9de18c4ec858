/- The contract of the document's own answer for tally: rows that are taken. -/
import Derived.Test.YtehofpmkplkaaaaTaRef3
namespace Go.Proofs.Ytehofpmkplkaaaa.Tal
open Go.RowKit Cm
theorem takeN_len (n : Nat) : ∀ (acc : List (List UInt8)) (b : List UInt8) (x : List (List UInt8) × List UInt8), takeN n acc b = some x → n ≤ b.length := by
  induction n with
  | zero => intro acc b x h; omega
  | succ n ih =>
    intro acc b x h
    unfold takeN at h
    split at h
    · simp at h
    · rename_i y r h0
      have h1 := takeText_len _ _ _ h0
      have h2 := ih _ _ _ h
      omega
theorem takeRow_n (b r : List UInt8) (n : Nat) (h : Ta.take 0 b = some (n, r)) : takeRow b = takeN n [] r := by
  unfold takeRow
  rw [h]
  simp only
  split
  · rfl
  · rename_i hn
    cases h2 : takeN n [] r with
    | none => rfl
    | some x => exact absurd (takeN_len _ _ _ _ h2) hn
def msr : Value → Value → Nat
  | .string r, .bool true => r.size + 1
  | _, _ => 0
def Step (n : Nat) (r0 r : List UInt8) (acc : List (List UInt8)) (ok : Bool) : Prop :=
  acc.length + r.length ≤ r0.length + 1 ∧ (ok = true → acc.length ≤ n ∧ acc.length + r.length ≤ r0.length ∧ takeN n [] r0 = takeN (n - acc.length) acc r) ∧ (ok = false → takeN n [] r0 = none)
theorem step_some {n : Nat} {r0 r x r' : List UInt8} {acc : List (List UInt8)} (h : Step n r0 r acc true) (hlt : acc.length < n) (hx : Ta.takeText r = some (x, r')) : Step n r0 r' (acc ++ [x]) true := by
  have h1 := takeText_len _ _ _ hx
  obtain ⟨_, h3, _⟩ := h
  obtain ⟨_, h5, h6⟩ := h3 rfl
  refine ⟨by simp; omega, fun _ => ⟨by simp; omega, by simp; omega, ?_⟩, fun e => by cases e⟩
  rw [h6, show n - acc.length = (n - (acc ++ [x]).length) + 1 by simp; omega, takeN, hx]
theorem step_none {n : Nat} {r0 r : List UInt8} {acc : List (List UInt8)} (h : Step n r0 r acc true) (hlt : acc.length < n) (hx : Ta.takeText r = none) : Step n r0 [] (acc ++ [[]]) false := by
  obtain ⟨_, h3, _⟩ := h
  obtain ⟨_, h5, h6⟩ := h3 rfl
  refine ⟨by simp; omega, fun e => (by cases e), fun _ => ?_⟩
  rw [h6, show n - acc.length = (n - acc.length - 1) + 1 by omega, takeN, hx]
theorem step_end {n : Nat} {r0 r : List UInt8} {acc : List (List UInt8)} (h : Step n r0 r acc true) (hge : ¬ acc.length < n) : takeN n [] r0 = some (acc, r) := by
  obtain ⟨_, h3, _⟩ := h
  obtain ⟨h4, h5, h6⟩ := h3 rfl
  rw [h6, show n - acc.length = 0 by omega, takeN]
theorem own_shape {w : World} {base e size n : Nat} {v : Value} {xs : List Value} (h : w.ownsRow base e size v n xs) : ∃ a cap, v = .slice a n cap := by
  rcases h.2 with ⟨rfl, rfl⟩ | ⟨g, cap, _, rfl, _⟩
  · exact ⟨none, 0, rfl⟩
  · exact ⟨_, cap, rfl⟩
set_option maxRecDepth 100000 in
set_option maxHeartbeats 1600000 in
theorem refTakeRow_c (s : ByteArray) (w : World) (hs : s.size ≤ 1073741824) :
    Calls Try.prog 32 #[.string s] w (RowRes (takeRow s.data.toList) w) := by
  cases hT : Ta.take 0 s.data.toList with
  | none =>
    have HX := Lib.hid (show takeRow s.data.toList = none by unfold takeRow; rw [hT])
    have K := Lib.hid (hT ▸ refTakeNum_c s w (by omega))
    clear hT hs
    go_enter Try.func32, Try.ntmps32
    go_wp2_with fail
    refine K.out.mono ?_
    rintro e w1 ⟨rfl, b1⟩
    go_wp2_with fail
    go_loop [7] (fun l => l = .bool false) (fun _ => 0)
    case atStart => rfl
    case round =>
      obtain rfl := hrel
      go_wp2_with fail
      go_ret3
      rw [HX.out]
      exact ⟨_, rfl, b1, World.ownsRow_nil _ _ _ _⟩
  | some x =>
    obtain ⟨n, r0⟩ := x
    have hn := Ta.take_bound _ _ _ _ hT
    have hrl : r0.length ≤ 1073741824 := by
      have : s.data.toList.length = s.size := by simp
      omega
    have hn1 := hn.1
    have K := Lib.hid (hT ▸ refTakeNum_c s w (by omega))
    have HX := Lib.hid (takeRow_n _ _ _ hT)
    obtain ⟨i0, hi, hz0, hz1, hz2⟩ := info_parts Try.info9
    clear hT hs hn
    go_enter Try.func32, Try.ntmps32
    go_wp2_with fail
    refine K.out.mono ?_
    rintro e w1 ⟨rfl, b1⟩
    have HB1 := Lib.hid b1
    clear b1 K
    go_wp2_with fail
    go_loopw [6, 7, 8] (fun s6 s7 s8 wr => ∃ (ok : Bool) (r : List UInt8) (acc : List (List UInt8)), s6 = .string ⟨r.toArray⟩ ∧ s7 = .bool ok ∧ Step n r0 r acc ok ∧ wr.ownsRow w.heap.size 9 1 s8 acc.length (acc.map sv) ∧ Below w.heap.size w wr) (fun s6 s7 _ _ => msr s6 s7)
    case atStart => exact ⟨true, r0, [], rfl, rfl, ⟨by simp, fun _ => ⟨by simp, by simp, rfl⟩, fun e => by cases e⟩, World.ownsRow_nil _ _ _ _, HB1.out⟩
    case round =>
      obtain ⟨ok, r, acc, rfl, rfl, hst, hown, hB⟩ := hrel
      have HS := Lib.hid hst
      have HO := Lib.hid hown
      have HB := Lib.hid hB
      clear hst hown hB HB1
      cases ok with
      | false =>
        have HE := Lib.hid (HS.out.2.2 rfl)
        go_wp2_with fail
        go_ret3
        rw [HX.out, HE.out]
        exact ⟨_, rfl, HB.out, World.ownsRow_nil _ _ _ _⟩
      | true =>
        have hal : acc.length ≤ 1073741824 := by have := (HS.out.2.1 rfl).2.1; omega
        have hrr : r.length ≤ 1073741824 := by have := (HS.out.2.1 rfl).2.1; omega
        obtain ⟨va, vc, rfl⟩ := own_shape HO.out
        have hal9 : acc.length ≤ 9223372036854775807 := by omega
        by_cases hlt : acc.length < n
        · have hltI : (acc.length : Int) < (n : Int) := by omega
          cases hX : Ta.takeText r with
          | none =>
            have HE := Lib.hid (step_none HS.out hlt hX)
            have K := Lib.hid (hX ▸ refTakeText_c ⟨r.toArray⟩ wr (by show r.length ≤ _; omega))
            clear hX
            go_wp2_with fail
            refine K.out.mono ?_
            rintro e w1 ⟨rfl, b1⟩
            have HO1 := Lib.hid (own_later HO.out b1)
            go_wp2_with (at_builtin; refine wpList_append_own _ rfl _ _ 23 rfl w.heap.size 9 i0 (.string ⟨#[]⟩) 1 16 Try.underlying23 hi hz0 hz1 hz2 rfl (by decide) _ _ _ rfl (HO1.out.alloc _) ⟨w1.heap.size, 0, none⟩ 1 1 [sv []] rfl ?c0 ?c1 ?c2 ?c3 ?c4 ?c5 ?_)
            case c0 => rfl
            case c1 =>
              intro j u hj
              cases j with
              | zero => simp at hj; subst hj; rw [Go.WideShapes.add_plain, World.cell?_alloc_at _ _ _ _ rfl]; rfl
              | succ j => simp at hj
            case c2 => intro u hu; simp at hu; subst hu; rfl
            case c3 => unfold maxLen; omega
            case c4 => omega
            case c5 => have h1 := HB.out.size; have h2 := b1.size; simp; omega
            intro v' w' hown' hgrow _
            go_wp2_with fail
            have h1 := HB.out.size
            have h2 := b1.size
            go_roundw
            case rel => exact ⟨false, [], acc ++ [[]], rfl, rfl, HE.out, by simpa using hown', ((HB.out.trans (b1.mono h1)).alloc (by omega) _).grown hgrow (by simp; omega) (fun k hk => own_ge HO.out hk)⟩
            case measure => simp [msr]
          | some y =>
            obtain ⟨x, r'⟩ := y
            have HE := Lib.hid (step_some HS.out hlt hX)
            have hxl := takeText_len _ _ _ hX
            have K := Lib.hid (hX ▸ refTakeText_c ⟨r.toArray⟩ wr (by show r.length ≤ _; omega))
            clear hX
            go_wp2_with fail
            refine K.out.mono ?_
            rintro e w1 ⟨rfl, b1⟩
            have HO1 := Lib.hid (own_later HO.out b1)
            go_wp2_with (at_builtin; refine wpList_append_own _ rfl _ _ 23 rfl w.heap.size 9 i0 (.string ⟨#[]⟩) 1 16 Try.underlying23 hi hz0 hz1 hz2 rfl (by decide) _ _ _ rfl (HO1.out.alloc _) ⟨w1.heap.size, 0, none⟩ 1 1 [sv x] rfl ?d0 ?d1 ?d2 ?d3 ?d4 ?d5 ?_)
            case d0 => rfl
            case d1 =>
              intro j u hj
              cases j with
              | zero => simp at hj; subst hj; rw [Go.WideShapes.add_plain, World.cell?_alloc_at _ _ _ _ rfl]; rfl
              | succ j => simp at hj
            case d2 => intro u hu; simp at hu; subst hu; rfl
            case d3 => unfold maxLen; omega
            case d4 => omega
            case d5 => have h1 := HB.out.size; have h2 := b1.size; simp; omega
            intro v' w' hown' hgrow _
            go_wp2_with fail
            have h1 := HB.out.size
            have h2 := b1.size
            go_roundw
            case rel => exact ⟨true, r', acc ++ [x], rfl, rfl, HE.out, by simpa using hown', ((HB.out.trans (b1.mono h1)).alloc (by omega) _).grown hgrow (by simp; omega) (fun k hk => own_ge HO.out hk)⟩
            case measure => simp [msr]; show r'.length < r.length; omega
        · have hltI : ¬ (acc.length : Int) < (n : Int) := by omega
          have HE := Lib.hid (step_end HS.out hlt)
          go_wp2_with fail
          go_ret3
          rw [HX.out, HE.out]
          exact ⟨_, rfl, HB.out, HO.out⟩
end Go.Proofs.Ytehofpmkplkaaaa.Tal
