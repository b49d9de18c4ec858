/- The contracts of package tally's TakeRow. -/
import Derived.Test.YtehofpmkplkaaaaTaRow
namespace Go.Proofs.Ytehofpmkplkaaaa.Tal
open Go.RowKit
def takeN : Nat → List (List UInt8) → List UInt8 → Option (List (List UInt8) × List UInt8)
  | 0, acc, b => some (acc, b)
  | n + 1, acc, b => match Ta.takeText b with | none => none | some (x, r) => takeN n (acc ++ [x]) r
def takeRow (b : List UInt8) : Option (List (List UInt8) × List UInt8) :=
  match Ta.take 0 b with
  | none => none
  | some (n, r) => if n ≤ r.length then takeN n [] r else none
def sv (x : List UInt8) : Value := .string ⟨x.toArray⟩
def restOf : Option (List (List UInt8) × List UInt8) → List UInt8
  | some (_, r) => r
  | none => []
def listOf : Option (List (List UInt8) × List UInt8) → List (List UInt8)
  | some (l, _) => l
  | none => []
def RowRes (o : Option (List (List UInt8) × List UInt8)) (w : World) (e : Ending) (w' : World) : Prop :=
  ∃ v, e = .returned (.tuple #[v, .string ⟨(restOf o).toArray⟩, .bool o.isSome]) ∧ Below w.heap.size w w' ∧
    w'.ownsRow w.heap.size 9 1 v (listOf o).length ((listOf o).map sv)
theorem _root_.Go.Proofs.Ytehofpmkplkaaaa.Try.info9 : (Try.prog.info? 9).map (fun i => (i.zero, i.size, i.bytes)) = some (some (.string ⟨#[]⟩), 1, 16) := by kernel_rfl
theorem own_lower {w : World} {base base' e size n : Nat} {v : Value} {xs : List Value} (h : w.ownsRow base e size v n xs) (hb : base' ≤ base) : w.ownsRow base' e size v n xs := by
  refine ⟨h.1, ?_⟩
  rcases h.2 with h | ⟨g, cap, cur, h1, h2, h3⟩
  · exact .inl h
  · exact .inr ⟨g, cap, cur, h1, Nat.le_trans hb h2, h3⟩
theorem own_later {w w' : World} {base e size n : Nat} {v : Value} {xs : List Value} (h : w.ownsRow base e size v n xs) (hb : Below w.heap.size w w') : w'.ownsRow base e size v n xs := by
  refine h.kept (row := none) ⟨hb.os, hb.tape, hb.output, hb.size, fun k hk _ => hb.block k hk⟩ ?_
  cases hv : v.ownBlock with
  | none => exact .inl rfl
  | some k => exact .inr (by simp)
theorem takeText_len (b x r : List UInt8) (h : Ta.takeText b = some (x, r)) : x.length + r.length < b.length := by
  unfold Ta.takeText at h
  split at h
  · rename_i n r0 h0
    have := Ta.take_bound _ _ _ _ h0
    split at h
    · simp only [Option.some.injEq, Prod.mk.injEq] at h
      obtain ⟨rfl, rfl⟩ := h
      simp; omega
    · simp at h
  · simp at h
set_option maxRecDepth 100000 in
set_option maxHeartbeats 1600000 in
theorem many_c (n : Nat) (s : ByteArray) (w : World) (hn : n ≤ s.size) (hs : s.size ≤ 1073741824) :
    Calls Try.prog 51 #[.string s, .int .u64 n, .func (.func 29) #[] #[]] w (RowRes (takeN n [] s.data.toList) w) := by
  have hn64 : n < 18446744073709551616 := by omega
  have HS := Lib.hid hs
  have HN := Lib.hid hn
  have hsz : s.size ≤ 9223372036854775807 := by omega
  obtain ⟨i0, hi, hz0, hz1, hz2⟩ := info_parts Try.info9
  clear hs
  go_enter Try.func51, Try.ntmps51
  go_wp2_with fail
  rw [show decide (s.size < n) = false from decide_eq_false (by omega)]
  clear hn
  go_loopw [0, 9, 19] (fun s0 s9 s19 wr => ∃ (k : Nat) (r : ByteArray) (acc : List (List UInt8)), k ≤ n ∧ acc.length = k ∧ r.size ≤ s.size ∧ s19 = .int .u64 k ∧ s0 = .string r ∧ takeN n [] s.data.toList = takeN (n - k) acc r.data.toList ∧ wr.ownsRow w.heap.size 9 1 s9 acc.length (acc.map sv) ∧ Below w.heap.size w wr) (fun _ _ s19 _ => n - (intOf s19).toNat)
  case atStart => exact ⟨0, s, [], by omega, rfl, by omega, rfl, rfl, rfl, World.ownsRow_nil _ _ _ _, Below.refl _ _⟩
  case round =>
    obtain ⟨k, r, acc, hk, hka, hrs, rfl, rfl, htk, hown, hB⟩ := hrel
    have HT := Lib.hid htk
    have HO := Lib.hid hown
    have HB := Lib.hid hB
    have HA := Lib.hid hka
    clear htk hown hB hka
    by_cases hlt : k < n
    · cases hX : Ta.takeText r.data.toList with
      | none =>
        have HE := Lib.hid (show takeN (n - k) acc r.data.toList = none by rw [show n - k = (n - k - 1) + 1 by omega, takeN, hX])
        have K := Lib.hid (hX ▸ takeText_c r wr (by have := HS.out; unfold maxLen; omega))
        clear hX
        go_wp2_with fail
        refine K.out.mono ?_
        rintro e w1 ⟨rfl, b1⟩
        go_wp2_with fail
        go_ret3
        rw [HT.out, HE.out]
        exact ⟨_, rfl, HB.out.trans (b1.mono HB.out.size), World.ownsRow_nil _ _ _ _⟩
      | some y =>
        obtain ⟨x, r'⟩ := y
        have hxl := takeText_len _ _ _ hX
        have HE := Lib.hid (show takeN (n - k) acc r.data.toList = takeN (n - (k + 1)) (acc ++ [x]) r' by rw [show n - k = (n - (k + 1)) + 1 by omega, takeN, hX])
        have K := Lib.hid (hX ▸ takeText_c r wr (by have := HS.out; unfold maxLen; omega))
        have hr' : r'.length ≤ s.size := by simp at hxl; omega
        clear hX hxl
        go_wp2_with fail
        refine K.out.mono ?_
        rintro e w1 ⟨rfl, b1⟩
        have HO1 := Lib.hid (own_later HO.out b1)
        go_wp2_with (at_builtin; refine wpList_append_own _ rfl _ _ 23 rfl w.heap.size 9 i0 (.string ⟨#[]⟩) 1 16 Try.underlying23 hi hz0 hz1 hz2 rfl (by decide) _ _ _ rfl (HO1.out.alloc _) ⟨w1.heap.size, 0, none⟩ 1 1 [sv x] rfl ?c0 ?c1 ?c2 ?c3 ?c4 ?c5 ?_)
        case c0 => rfl
        case c1 =>
          intro j u hj
          cases j with
          | zero => simp at hj; subst hj; rw [Go.WideShapes.add_plain, World.cell?_alloc_at _ _ _ _ rfl]; rfl
          | succ j => simp at hj
        case c2 => intro u hu; simp at hu; subst hu; rfl
        case c3 => have h1 := HA.out; have h2 := HN.out; have h3 := HS.out; unfold maxLen; omega
        case c4 => have h1 := HA.out; have h2 := HN.out; have h3 := HS.out; omega
        case c5 => have h1 := HB.out.size; have h2 := b1.size; simp; omega
        intro v' w' hown' hgrow _
        go_wp2_with fail
        go_round
        case rel =>
          have h1 := HB.out.size
          have h2 := b1.size
          exact ⟨k + 1, ⟨r'.toArray⟩, acc ++ [x], by omega, by simp [HA.out], hr', by simp, rfl, by rw [HT.out, HE.out], by simpa using hown',
            ((HB.out.trans (b1.mono h1)).alloc (by omega) _).grown hgrow (by simp; omega) (fun k hk => own_ge HO.out hk)⟩
        case measure => simp [intOf]; omega
    · obtain rfl : k = n := by omega
      go_wp2_with fail
      go_ret3
      rw [HT.out, Nat.sub_self, takeN]
      exact ⟨_, rfl, HB.out, HO.out⟩
set_option maxRecDepth 100000 in
theorem many_big (n : Nat) (s : ByteArray) (w : World) (hn : s.size < n) (hs : s.size ≤ 1073741824) :
    Calls Try.prog 51 #[.string s, .int .u64 n, .func (.func 29) #[] #[]] w (RowRes none w) := by
  go_enter Try.func51, Try.ntmps51
  go_wp2_with fail
  go_ret3
  exact ⟨_, rfl, Below.refl _ _, World.ownsRow_nil _ _ _ _⟩
set_option maxRecDepth 100000 in
theorem takeRow_c (s : ByteArray) (w : World) (hs : s.size ≤ 1073741824) :
    Calls Try.prog 31 #[.string s] w (RowRes (takeRow s.data.toList) w) := by
  cases hT : Ta.take 0 s.data.toList with
  | none =>
    have HX := Lib.hid (show takeRow s.data.toList = none by unfold takeRow; rw [hT])
    have K := Lib.hid (hT ▸ takeNum_c s w (by unfold maxLen; omega))
    clear hT hs
    go_enter Try.func31, Try.ntmps31
    go_wp2_with fail
    refine K.out.mono ?_
    rintro e w1 ⟨rfl, b1⟩
    go_wp2_with fail
    go_ret3
    rw [HX.out]
    exact ⟨_, rfl, b1, World.ownsRow_nil _ _ _ _⟩
  | some x =>
    obtain ⟨n, r⟩ := x
    have hb := Ta.take_bound _ _ _ _ hT
    have hrs : r.length ≤ 1073741824 := by have : s.data.toList.length = s.size := by simp
                                           omega
    have K := Lib.hid (hT ▸ takeNum_c s w (by unfold maxLen; omega))
    have HX0 : (∀ w1, Calls Try.prog 51 #[.string ⟨r.toArray⟩, .int .u64 n, .func (.func 29) #[] #[]] w1 (RowRes (takeRow s.data.toList) w1)) := by
      intro w1
      unfold takeRow
      rw [hT]
      by_cases hp : n ≤ r.length
      · simp only [if_pos hp]
        exact many_c n ⟨r.toArray⟩ w1 hp hrs
      · simp only [if_neg hp]
        exact many_big n ⟨r.toArray⟩ w1 (by show r.length < n; omega) hrs
    have HX := Lib.hid HX0
    clear hT hb hrs hs HX0
    go_enter Try.func31, Try.ntmps31
    go_wp2_with fail
    refine K.out.mono ?_
    rintro e w1 ⟨rfl, b1⟩
    go_wp2_with fail
    refine (HX.out w1).mono ?_
    rintro e w2 ⟨v, rfl, b2, hv⟩
    go_wp2_with fail
    go_ret3
    exact ⟨v, rfl, b1.trans (b2.mono b1.size), own_lower hv b1.size⟩
end Go.Proofs.Ytehofpmkplkaaaa.Tal
