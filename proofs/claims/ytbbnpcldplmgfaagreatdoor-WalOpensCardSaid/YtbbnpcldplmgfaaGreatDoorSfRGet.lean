/- Package quittanceref04: Get. -/
import Derived.Test.YtbbnpcldplmgfaaGreatDoorSfRPut
import Derived.Test.YtbbnpcldplmgfaaGreatDoorSfSame
import Derived.Deep.DeepCutAuto
namespace Go.Proofs.YtbbnpcldplmgfaaGreatDoor.Shf
open Go.RowKit Tal
theorem results_tmp4 {fn : Func} {t u v x : Tmp} (h : fn.results = #[.tmp t, .tmp u, .tmp v, .tmp x]) (tmps : Array Value) (P : Program) (w : World) :
  (results fn tmps).run P w = .ok (.tuple #[tmps.getD t undef, tmps.getD u undef, tmps.getD v undef, tmps.getD x undef]) w := by
  simp [results, h]
theorem lget_yes (s : ByteArray) (n : Nat) (c : List UInt8) (w : World) (h : Lf.get s.data.toList = some (n, c)) :
    Calls Tryz.prog 84 #[.string s] w fun e w' => e = .returned (.tuple #[.int .u64 n, .string ⟨c.toArray⟩, .bool true]) ∧ Below w.heap.size w w' := by
  have := Le.rget_c s w
  rw [h] at this
  exact this
theorem lget_no (s : ByteArray) (w : World) (h : Lf.get s.data.toList = none) :
    Calls Tryz.prog 84 #[.string s] w fun e w' => e = .returned (.tuple #[.int .u64 0, .string ⟨#[]⟩, .bool false]) ∧ Below w.heap.size w w' := by
  have := Le.rget_c s w
  rw [h] at this
  exact this
def lists (L : List ByteArray) : List (List UInt8) := L.map fun s => s.data.toList
/-- How far the loop has come. -/
structure So (G : List (List UInt8)) (k n : Nat) (A : List UInt8) : Prop where
  z : k = 0 → n = 0 ∧ A = []
  p : 0 < k → (∃ x t c, G = x :: t ∧ Lf.get x = some (n, c)) ∧ (∀ y ∈ G.take k, Sf.isOf n y = true) ∧ A = ((G.take k).map Lf.mid).flatten
  l : A.length ≤ 48 * k
/-- Where the loop ends. -/
def Fin (G : List (List UInt8)) (n : Nat) (A : List UInt8) : Prop :=
  (n = 0 ∧ A = [] ∧ Sf.rget G = none) ∨ (A.length ≤ 48 * G.length ∧ ∃ x t c, G = x :: t ∧ Lf.get x = some (n, c) ∧ A = ((G.takeWhile (Sf.isOf n)).map Lf.mid).flatten)
theorem so_zero (G : List (List UInt8)) : So G 0 0 [] := ⟨fun _ => ⟨rfl, rfl⟩, fun h => absurd h (by omega), by simp⟩
theorem isOf_get {x c : List UInt8} {n : Nat} (h : Lf.get x = some (n, c)) : Sf.isOf n x = true := by unfold Sf.isOf; rw [h]; simp
theorem so_first {G : List (List UInt8)} (h0 : 0 < G.length) {n : Nat} {c : List UInt8} (h : Lf.get G[0] = some (n, c)) : So G 1 n c := by
  obtain ⟨g0, g1, g2, g3, g4⟩ := Sf.leaf_of_get h
  cases G with
  | nil => simp at h0
  | cons x t =>
    refine ⟨fun h => by omega, fun _ => ⟨⟨x, t, c, rfl, h⟩, ?_, ?_⟩, by omega⟩
    · intro y hy
      obtain rfl : y = x := by simpa using hy
      exact isOf_get h
    · simpa using g3
theorem so_next {G : List (List UInt8)} {k n : Nat} {A c : List UInt8} (hs : So G k n A) (hk : k < G.length) (h0 : 0 < k) (h : Lf.get G[k] = some (n, c)) : So G (k + 1) n (A ++ c) := by
  obtain ⟨g0, g1, g2, g3, g4⟩ := Sf.leaf_of_get h
  obtain ⟨p1, p2, p3⟩ := hs.p h0
  have e := List.take_succ_eq_append_getElem hk
  refine ⟨fun h => by omega, fun _ => ⟨p1, ?_, ?_⟩, by rw [List.length_append]; have := hs.l; omega⟩
  · intro y hy
    rw [e] at hy
    rcases List.mem_append.1 hy with h' | h'
    · exact p2 y h'
    · obtain rfl := List.mem_singleton.1 h'
      exact isOf_get h
  · rw [e, List.map_append, List.flatten_append, ← p3, g3]; simp
theorem while_take {G : List (List UInt8)} {p : List UInt8 → Bool} {k : Nat} (h : ∀ y ∈ G.take k, p y = true) (hk : G.length ≤ k ∨ ∃ hk : k < G.length, p G[k] = false) : G.takeWhile p = G.take k := by
  induction G generalizing k with
  | nil => simp
  | cons x t ih =>
    cases k with
    | zero =>
      rcases hk with hk | ⟨hk, hp⟩
      · simp at hk
      · simp at hp; simp [hp]
    | succ k =>
      have hx : p x = true := h x (by simp)
      rw [List.takeWhile_cons_of_pos hx, List.take_succ_cons, ih (fun y hy => h y (by rw [List.take_succ_cons]; exact List.mem_cons_of_mem _ hy))]
      rcases hk with hk | ⟨hk, hp⟩
      · left; simpa using hk
      · right; exact ⟨by simpa using hk, by simpa using hp⟩
theorem so_end {G : List (List UInt8)} {n : Nat} {A : List UInt8} (hs : So G G.length n A) : Fin G n A := by
  rcases Nat.eq_zero_or_pos G.length with h0 | h0
  · obtain rfl : G = [] := List.eq_nil_of_length_eq_zero h0
    obtain ⟨rfl, rfl⟩ := hs.z rfl
    exact .inl ⟨rfl, rfl, rfl⟩
  · obtain ⟨⟨x, t, c, p1, p1'⟩, p2, p3⟩ := hs.p h0
    exact .inr ⟨hs.l, x, t, c, p1, p1', by rw [while_take p2 (.inl (Nat.le_refl _))]; exact p3⟩
theorem so_out {G : List (List UInt8)} {k n : Nat} {A : List UInt8} (hs : So G k n A) (hk : k < G.length) (h0 : 0 < k) (h : Sf.isOf n G[k] = false) : Fin G n A := by
  obtain ⟨⟨x, t, c, p1, p1'⟩, p2, p3⟩ := hs.p h0
  exact .inr ⟨by have := hs.l; omega, x, t, c, p1, p1', by rw [while_take p2 (.inr ⟨hk, h⟩)]; exact p3⟩
theorem fin_no {G : List (List UInt8)} (h0 : 0 < G.length) (h : Lf.get G[0] = none) : Fin G 0 [] := by
  cases G with
  | nil => simp at h0
  | cons x t =>
    refine .inl ⟨rfl, rfl, ?_⟩
    unfold Sf.rget
    simp only [List.getElem_cons_zero] at h
    simp only [h]
theorem isOf_no {n : Nat} {x : List UInt8} (h : Lf.get x = none) : Sf.isOf n x = false := by unfold Sf.isOf; rw [h]
theorem isOf_ne {n m : Nat} {x c : List UInt8} (h : Lf.get x = some (m, c)) (hne : m ≠ n) : Sf.isOf n x = false := by unfold Sf.isOf; rw [h]; simpa using hne
/-- What Get answers. -/
def SGet (o : Option (Nat × List UInt8 × Nat)) (w : World) (e : Ending) (w' : World) : Prop :=
  (∀ n s k, o = some (n, s, k) → e = .returned (.tuple #[.int .u64 (n : Nat), .string ⟨s.toArray⟩, .int .i64 (k : Nat), .bool true])) ∧
  (o = none → e = .returned (.tuple #[.int .u64 0, .string ⟨#[]⟩, .int .i64 0, .bool false])) ∧ Below w.heap.size w w'
theorem sget_none {o : Option (Nat × List UInt8 × Nat)} {w w' : World} {e : Ending} (h : o = none) (he : e = .returned (.tuple #[.int .u64 0, .string ⟨#[]⟩, .int .i64 0, .bool false])) (hb : Below w.heap.size w w') : SGet o w e w' := by
  subst h; exact ⟨fun _ _ _ h => (by cases h), fun _ => he, hb⟩
theorem sget_some {o : Option (Nat × List UInt8 × Nat)} {w w' : World} {e : Ending} {n k : Nat} {s : List UInt8} (h : o = some (n, s, k)) (he : e = .returned (.tuple #[.int .u64 (n : Nat), .string ⟨s.toArray⟩, .int .i64 (k : Nat), .bool true])) (hb : Below w.heap.size w w') : SGet o w e w' := by
  subst h; exact ⟨fun _ _ _ h => (by cases h; exact he), fun h => (by cases h), hb⟩
theorem lists_len (L : List ByteArray) : (lists L).length = L.length := by simp [lists]
theorem lists_get (L : List ByteArray) (k : Nat) (h : k < L.length) : (lists L)[k]'(by rw [lists_len]; exact h) = L[k].data.toList := by simp [lists]
theorem takeText_small {A s r : List UInt8} (h : Ta.takeText A = some (s, r)) : s.length ≤ A.length := by
  have := takeText_len A s r h; omega
theorem ttext_none (A : List UInt8) (w : World) (hl : A.length ≤ 100000) (h : Ta.takeText A = none) :
    Calls Tryz.prog 71 #[.string ⟨A.toArray⟩] w fun e w' => e = .returned (.tuple #[.string ⟨#[]⟩, .string ⟨#[]⟩, .bool false]) ∧ Below w.heap.size w w' := by
  have := refTakeText_c ⟨A.toArray⟩ w (by show A.length ≤ _; omega)
  have e : Ta.takeText (ByteArray.mk A.toArray).data.toList = none := h
  rw [e] at this
  exact this
theorem ttext_some (A s r : List UInt8) (w : World) (hl : A.length ≤ 100000) (h : Ta.takeText A = some (s, r)) :
    Calls Tryz.prog 71 #[.string ⟨A.toArray⟩] w fun e w' => e = .returned (.tuple #[.string ⟨s.toArray⟩, .string ⟨r.toArray⟩, .bool true]) ∧ Below w.heap.size w w' := by
  have := refTakeText_c ⟨A.toArray⟩ w (by show A.length ≤ _; omega)
  have e : Ta.takeText (ByteArray.mk A.toArray).data.toList = some (s, r) := h
  rw [e] at this
  exact this
theorem strs_own {w : World} {base g cap : Nat} {S : List (List UInt8)} (h : w.ownsRow base 9 1 (.slice (some ⟨g, 0, none⟩) S.length cap) S.length (S.map sv)) : Strs w (some ⟨g, 0, none⟩) (bas S) := by
  obtain ⟨h1, h2⟩ := Rf.own_cell h
  intro j hj
  have hj' : j < S.length := by simpa [bas] using hj
  refine ⟨g, 0, rfl, h1, ?_⟩
  rw [Nat.zero_add]
  refine h2 j _ ?_
  simp [bas, sv, hj']
theorem lists_bas (S : List (List UInt8)) : lists (bas S) = S := by
  unfold lists bas
  rw [List.map_map]
  exact List.map_id S
theorem lists_inj {L M : List ByteArray} (h : lists L = lists M) : L = M := by
  unfold lists at h
  refine (List.map_inj_right ?_).1 h
  intro a b hab
  exact ByteArray.ext (Array.ext' hab)
theorem lists_take (L : List ByteArray) (k : Nat) : lists (L.take k) = (lists L).take k := by unfold lists; rw [List.map_take]
theorem same_yes (w : World) (a b : Option Addr) (n ca cb : Nat) (L M : List ByteArray) (hL : Strs w a L) (hM : Strs w b M) (hl : L.length = n) (hm : M.length = n) (hn : n ≤ 1073741824) (h : L = M) :
    Calls Tryz.prog 45 #[.slice a n ca, .slice b n cb] w fun e w' => e = .returned (.bool true) ∧ Below w.heap.size w w' := by
  subst hl
  have := same_c w a b ca cb L M hL hM hn (by omega)
  rw [hm, decide_eq_true h] at this
  exact this
theorem same_no (w : World) (a b : Option Addr) (n ca cb : Nat) (L M : List ByteArray) (hL : Strs w a L) (hM : Strs w b M) (hl : L.length = n) (hm : M.length = n) (hn : n ≤ 1073741824) (h : L ≠ M) :
    Calls Tryz.prog 45 #[.slice a n ca, .slice b n cb] w fun e w' => e = .returned (.bool false) ∧ Below w.heap.size w w' := by
  subst hl
  have := same_c w a b ca cb L M hL hM hn (by omega)
  rw [hm, decide_eq_false h] at this
  exact this
theorem strs_take {w : World} {a : Option Addr} {L : List ByteArray} (h : Strs w a L) (k : Nat) : Strs w a (L.take k) := by
  intro j hj
  obtain ⟨b, off, h1, h2, h3⟩ := h j (by simp at hj; omega)
  exact ⟨b, off, h1, h2, by simpa using h3⟩
set_option maxRecDepth 100000 in
set_option maxHeartbeats 3000000 in
theorem sheafget_ref (w : World) (a : Option Addr) (cap : Nat) (L : List ByteArray) (hL : Strs w a L) (hl : L.length ≤ 1000) (hcap : L.length ≤ cap) :
    Calls Tryz.prog 64 #[.slice a L.length cap] w (SGet (Sf.rget (lists L)) w) := by
  have HLS := Lib.hid hL
  have HLL := Lib.hid (lists_len L)
  obtain ⟨G, hG⟩ : ∃ G, lists L = G := ⟨_, rfl⟩
  have HG := Lib.hid hG
  have HGG := Lib.hid (fun k (h : k < L.length) => (show ∃ hk : k < G.length, G[k]'hk = L[k].data.toList by subst hG; exact ⟨by rw [lists_len]; exact h, lists_get L k h⟩))
  rw [hG] at HLL ⊢
  clear hL hG
  go_enter Tryz.func64, Tryz.ntmps64
  go_upto_region 2 with (fail)
  go_cut [7] (fun s7 wx => s7 = .int .u64 0 ∧ w = wx)
  case first =>
    go_wp2_with fail
    go_meet
    exact ⟨rfl, rfl⟩
  obtain ⟨rfl, rfl⟩ := hcut
  rename_i hK
  apply hK
  refine wp_seq_k (fun K2 hK2 => ?_)
  go_cut [6, 7] (fun s6 s7 wx => ∃ (n : Nat) (A : List UInt8), s6 = .string ⟨A.toArray⟩ ∧ s7 = .int .u64 n ∧ Fin G n A ∧ Below w.heap.size w wx)
  case first =>
    go_wp2_with fail
    go_loopw [6, 7, 8] (fun s6 s7 i wr => ∃ (k n : Nat) (A : List UInt8), k ≤ L.length ∧ i = .int .i64 k ∧ s6 = .string ⟨A.toArray⟩ ∧ s7 = .int .u64 n ∧ So G k n A ∧ Below w.heap.size w wr) (fun _ _ i _ => L.length - (intOf i).toNat)
    case atStart => exact ⟨0, 0, [], by omega, rfl, rfl, rfl, so_zero G, Below.refl _ _⟩
    case round =>
      obtain ⟨k, n, A, hk, rfl, rfl, rfl, hso, hB⟩ := hrel
      have HB := Lib.hid hB
      have HSO := Lib.hid hso
      have hAl := hso.l
      clear hB hso
      by_cases hlt : k < L.length
      · obtain ⟨b, off, rfl, hbl, hc⟩ := HLS.out k hlt
        have hcell := (HB.out.cell (p := ⟨b, off + k, none⟩) (by simpa using hbl)).trans hc
        obtain ⟨hkG, hGk⟩ := HGG.out k hlt
        have hkG' := hkG
        obtain ⟨s, hs⟩ : ∃ s, L[k] = s := ⟨_, rfl⟩
        rw [hs] at hcell hGk
        have HGK := Lib.hid hGk
        have q0 : (0 : Int) ≤ (k : Int) := by omega
        have q1 : (k : Int) < (L.length : Int) := by omega
        clear hc hs hbl hGk hkG'
        cases hq : Lf.get s.data.toList with
        | none =>
          have KE := Lib.hid (fun w => lget_no s w hq)
          have HQ := Lib.hid hq
          clear hq
          by_cases h0 : k = 0
          · have hz : ((k : Int) == 0) = true := beq_iff_eq.2 (by omega)
            have HF := Lib.hid (show Fin G 0 A by
              subst h0
              obtain ⟨_, rfl⟩ := HSO.out.z rfl
              exact fin_no hkG (by rw [HGK.out]; exact HQ.out))
            clear h0
            go_wp2_with fail
            refine (KE.out _).mono ?_
            rintro e w2 ⟨rfl, b2⟩
            have B2 := Lib.hid (HB.out.trans (b2.mono HB.out.size))
            clear b2
            go_wp2_with fail
            go_meet
            exact ⟨0, A, rfl, rfl, HF.out, B2.out⟩
          · have hz : ((k : Int) == 0) = false := beq_eq_false_iff_ne.2 (by omega)
            have HF := Lib.hid (show Fin G n A from so_out HSO.out hkG (by omega) (by rw [HGK.out]; exact isOf_no HQ.out))
            clear h0
            go_wp2_with fail
            refine (KE.out _).mono ?_
            rintro e w2 ⟨rfl, b2⟩
            have B2 := Lib.hid (HB.out.trans (b2.mono HB.out.size))
            clear b2
            go_wp2_with fail
            go_meet
            exact ⟨n, A, rfl, rfl, HF.out, B2.out⟩
        | some x =>
          obtain ⟨m, c⟩ := x
          have KE := Lib.hid (fun w => lget_yes s m c w hq)
          have HQ := Lib.hid hq
          have hcl := (Sf.leaf_of_get hq).2.2.1
          have hcat : A.length + c.length ≤ 9223372036854775807 := by omega
          have HCAT := Lib.hid (Le.cat_mk2 A c)
          have hcl2 : c.length ≤ 48 := by omega
          clear hq hcl
          by_cases h0 : k = 0
          · have hz : ((k : Int) == 0) = true := beq_iff_eq.2 (by omega)
            have HF := Lib.hid (show So G (k + 1) m (A ++ c) by
              subst h0
              obtain ⟨_, rfl⟩ := HSO.out.z rfl
              exact so_first hkG (by rw [HGK.out]; exact HQ.out))
            clear h0
            go_wp2_with fail
            refine (KE.out _).mono ?_
            rintro e w2 ⟨rfl, b2⟩
            have B2 := Lib.hid (HB.out.trans (b2.mono HB.out.size))
            clear b2
            go_wp2_with fail
            exact ⟨⟨k + 1, m, A ++ c, by omega, by simp, by rw [HCAT.out], rfl, HF.out, B2.out⟩, by simp [intOf]; omega⟩
          · have hz : ((k : Int) == 0) = false := beq_eq_false_iff_ne.2 (by omega)
            by_cases hmn : m = n
            · subst hmn
              have HF := Lib.hid (show So G (k + 1) m (A ++ c) from so_next HSO.out hkG (by omega) (by rw [HGK.out]; exact HQ.out))
              clear h0
              go_wp2_with fail
              refine (KE.out _).mono ?_
              rintro e w2 ⟨rfl, b2⟩
              have B2 := Lib.hid (HB.out.trans (b2.mono HB.out.size))
              clear b2
              go_wp2_with fail
              exact ⟨⟨k + 1, m, A ++ c, by omega, by simp, by rw [HCAT.out], rfl, HF.out, B2.out⟩, by simp [intOf]; omega⟩
            · have hne : ((m : Int) != (n : Int)) = true := by rw [bne_iff_ne]; omega
              have HF := Lib.hid (show Fin G n A from so_out HSO.out hkG (by omega) (by rw [HGK.out]; exact isOf_ne HQ.out hmn))
              clear h0 hmn
              go_wp2_with fail
              refine (KE.out _).mono ?_
              rintro e w2 ⟨rfl, b2⟩
              have B2 := Lib.hid (HB.out.trans (b2.mono HB.out.size))
              clear b2
              go_wp2_with fail
              go_meet
              exact ⟨n, A, rfl, rfl, HF.out, B2.out⟩
      · obtain rfl : k = L.length := by omega
        have HF := Lib.hid (show Fin G n A from so_end (by rw [HLL.out]; exact HSO.out))
        go_wp2_with fail
        go_meet
        exact ⟨n, A, rfl, rfl, HF.out, HB.out⟩
  case rest =>
    obtain ⟨n, A, rfl, rfl, hfin, hB⟩ := hcut
    apply hK2
    have HB := Lib.hid hB
    clear hB
    rcases hfin with ⟨rfl, rfl, hn⟩ | ⟨hAl, x, t, c, hx, hgx, hA⟩
    · have KT := Lib.hid (fun w => refTakeText_c ⟨#[]⟩ w (by show 0 ≤ _; omega))
      have HN := Lib.hid hn
      clear hn
      go_wp2_with fail
      refine (KT.out _).mono ?_
      rintro e w2 ⟨rfl, b2⟩
      have B2 := Lib.hid (HB.out.trans (b2.mono HB.out.size))
      clear b2
      go_wp2_with fail
      refine bodyPost_ret (results_tmp4 rfl _ _ _) rfl ?_
      exact sget_none HN.out rfl B2.out
    · obtain ⟨n0, nl, _, _, _⟩ := Sf.leaf_of_get hgx
      have hA9 : A.length ≤ 48000 := by have := HLL.out; omega
      have hLp : 0 < L.length := by rw [← HLL.out, hx]; simp
      obtain ⟨b, off, rfl, hbl, _⟩ := HLS.out 0 hLp
      cases ht : Ta.takeText A with
      | none =>
        have KT := Lib.hid (fun w => ttext_none A w (by omega) ht)
        have HN := Lib.hid (show Sf.rget G = none by rw [hx]; unfold Sf.rget; simp only [hgx]; rw [← hx, ← hA, ht])
        clear hx hgx hA ht n0
        go_wp2_with fail
        refine (KT.out _).mono ?_
        rintro e w2 ⟨rfl, b2⟩
        have B2 := Lib.hid (HB.out.trans (b2.mono HB.out.size))
        clear b2
        go_wp2_with fail
        refine bodyPost_ret (results_tmp4 rfl _ _ _) rfl ?_
        exact sget_none HN.out rfl B2.out
      | some z =>
        obtain ⟨s, r⟩ := z
        have KT := Lib.hid (fun w => ttext_some A s r w (by omega) ht)
        have hsl := takeText_small ht
        have KP := Lib.hid (fun w => (show Calls Tryz.prog 85 #[.int .u64 n, .string ⟨s.toArray⟩] w (PutOk n s w) from rput_ok n ⟨s.toArray⟩ w n0 nl (by show s.length ≤ _; omega)))
        unfold PutOk at KP
        have HR := Lib.hid (show Sf.rget G = if s.length ≤ 98304 ∧ Sf.many s.length ≤ G.length ∧ G.take (Sf.many s.length) = Sf.sheaf n s then some (n, s, Sf.many s.length) else none by
          rw [hx]; unfold Sf.rget; simp only [hgx]; rw [← hx, ← hA, ht])
        have HM := Lib.hid (Sf.sheaf_len n s)
        clear hx hgx hA ht n0
        go_wp2_with fail
        refine (KT.out _).mono ?_
        rintro e w2 ⟨rfl, b2⟩
        have B2 := Lib.hid (HB.out.trans (b2.mono HB.out.size))
        clear b2
        go_wp2_with fail
        refine (KP.out _).mono ?_
        rintro e w3 ⟨g, gc, rfl, hown, b3⟩
        have HOWN := Lib.hid (strs_own hown)
        have HSB := Lib.hid (show (bas (Sf.sheaf n s)).length = (Sf.sheaf n s).length by unfold bas; rw [List.length_map])
        have HLB := Lib.hid (lists_bas (Sf.sheaf n s))
        clear hown
        obtain ⟨m, hm⟩ : ∃ m, (Sf.sheaf n s).length = m := ⟨_, rfl⟩
        have HMM := Lib.hid hm
        rw [hm] at HSB HM ⊢
        have B3 := Lib.hid (B2.out.trans (b3.mono B2.out.size))
        have HLT := Lib.hid (HLS.out.later B3.out)
        clear b3 hm
        by_cases hml : m ≤ L.length
        · have q0 : (0 : Int) ≤ (m : Int) := by omega
          have q1 : (m : Int) ≤ (cap : Int) := by omega
          have q2 : ¬ (L.length : Int) < (m : Int) := by omega
          have q3 : m ≤ cap := by omega
          have HTL := Lib.hid (show (L.take m).length = m by rw [List.length_take]; omega)
          by_cases hS : bas (Sf.sheaf n s) = L.take m
          · have KS := Lib.hid (same_yes w3 (some ⟨g, 0, none⟩) (some ⟨b, off, none⟩) m gc cap _ _ HOWN.out (strs_take HLT.out m) HSB.out HTL.out (by omega) hS)
            have hc : G.take m = Sf.sheaf n s := by rw [← HLB.out, hS, lists_take, HG.out]
            have HY := Lib.hid (show Sf.rget G = some (n, s, m) by
              rw [HR.out, ← HM.out]
              exact if_pos ⟨by omega, by rw [HLL.out]; exact hml, hc⟩)
            clear hS hc
            go_wp2_with fail
            refine KS.out.mono ?_
            rintro e w4 ⟨rfl, b4⟩
            have B4 := Lib.hid (B3.out.trans (b4.mono B3.out.size))
            clear b4
            go_wp2_with fail
            refine bodyPost_ret (results_tmp4 rfl _ _ _) rfl ?_
            exact sget_some HY.out rfl B4.out
          · have KS := Lib.hid (same_no w3 (some ⟨g, 0, none⟩) (some ⟨b, off, none⟩) m gc cap _ _ HOWN.out (strs_take HLT.out m) HSB.out HTL.out (by omega) hS)
            have hc : ¬ G.take m = Sf.sheaf n s := fun h => hS (lists_inj (by rw [HLB.out, lists_take, HG.out, h]))
            have HY := Lib.hid (show Sf.rget G = none by
              rw [HR.out, ← HM.out]
              exact if_neg (fun h => hc h.2.2))
            clear hS hc
            go_wp2_with fail
            refine KS.out.mono ?_
            rintro e w4 ⟨rfl, b4⟩
            have B4 := Lib.hid (B3.out.trans (b4.mono B3.out.size))
            clear b4
            go_wp2_with fail
            refine bodyPost_ret (results_tmp4 rfl _ _ _) rfl ?_
            exact sget_none HY.out rfl B4.out
        · have q2 : (L.length : Int) < (m : Int) := by omega
          have HY := Lib.hid (show Sf.rget G = none by
            rw [HR.out, ← HM.out]
            exact if_neg (fun h => hml (by have := h.2.1; rw [HLL.out] at this; exact this)))
          go_wp2_with fail
          refine bodyPost_ret (results_tmp4 rfl _ _ _) rfl ?_
          exact sget_none HY.out rfl B3.out
end Go.Proofs.YtbbnpcldplmgfaaGreatDoor.Shf
