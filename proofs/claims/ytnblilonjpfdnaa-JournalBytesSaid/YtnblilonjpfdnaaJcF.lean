/- Joined: ChRef2 ChApp ChRAdd ChRShut ChCt. -/
import Derived.Test.YtnblilonjpfdnaaJcE
import Derived.Deep.QuietTactic
import Derived.Laws.AppendOwnNone
import Derived.Maps.AppendAt
import Derived.Lib.Strings
import Derived.BigQuiet
section
namespace Go.Proofs.Ytnblilonjpfdnaa.Ch
open Go Go.RowKit Ck Go.Maps
/-- Numbers in memory. -/
def Ins (w : World) (a : Option Addr) (L : List Int) : Prop := ∀ i (h : i < L.length), ∃ b off, a = some ⟨b, off, none⟩ ∧ b < w.heap.size ∧ w.cell? ⟨b, off + i, none⟩ = some (iv L[i])
theorem Ins.later {w w' : World} {a : Option Addr} {L : List Int} (h : Ins w a L) (hb : Below w.heap.size w w') : Ins w' a L := fun i hi => by
  obtain ⟨b, off, ha, hlt, hc⟩ := h i hi
  exact ⟨b, off, ha, Nat.lt_of_lt_of_le hlt hb.size, by rw [hb.cell (by simpa using hlt)]; exact hc⟩
theorem ins_own {w : World} {base n : Nat} {v : Value} {L : List Int} (h : w.ownsRow base TInt 1 v n (L.map iv)) (hn : n = L.length) : ∃ a cap, v = .slice a L.length cap ∧ Ins w a L ∧ L.length ≤ cap := by
  subst hn
  rcases id h.2 with ⟨rfl, h0⟩ | ⟨g, cap, cur, rfl, _, hg, hc, _, _, ht⟩
  · refine ⟨none, 0, ?_, fun j hj => by omega, by omega⟩
    rw [h0]
  · refine ⟨_, cap, rfl, fun j hj => ?_, hc⟩
    obtain ⟨g', cap', e1, e2⟩ := own_at h hj
    cases e1
    exact ⟨g, 0, rfl, (Array.getElem?_eq_some_iff.1 hg).1, by rw [Nat.zero_add]; exact e2⟩
theorem below_drewN {lo : Nat} {w w' : World} (h : Below lo w w') (n : Nat) : Below lo w (w'.drewN n) := ⟨h.os, h.tape, h.output, h.size, h.block⟩
section
variable {w : World} {a : Option Addr} {M : Int → Option Acc} {K : List Int}
set_option maxRecDepth 100000 in
set_option maxHeartbeats 3200000 in
theorem under_ref (g : Gm M K) (cap : Nat) (code : Int) (h : Acs w a (lst M K)) : Calls Try.prog 81 #[.slice a K.length cap, .int .i64 code] w (IntsRes (undL M K code) w) := by
  have G := Lib.hid g
  have H := Lib.hid h
  obtain ⟨i0, hi0, hz0, hz1, hz2⟩ := info_parts infoInt
  have KA : Hid (∀ v u, Below w.heap.size w u → Calls Try.prog 90 #[.slice a K.length cap, .int .i64 v, .int .i64 code] u fun e w' => e = .returned (.bool (und M code v)) ∧ u = w') := fun v u hu => is_ref g cap v code (h.later hu)
  have hK9 := g.wd.few g.ks
  clear g h
  go_enter Try.func81, Try.ntmps81
  go_wp2_with fail
  go_loopg [5, 6] K.length (fun kx s5 s6 wr => ∃ (i : Nat) (vv : Value), s6 = .int .i64 (i : Int) ∧ vv = s5 ∧ i ≤ K.length ∧ Hid (wr.ownsRow w.heap.size TInt 1 vv ((K.take i).filter (fun b => und M code b)).length (((K.take i).filter (fun b => und M code b)).map iv)) ∧ Hid (Below w.heap.size w wr) ∧ K.length ≤ i + kx)
  case atStart => exact ⟨0, _, rfl, rfl, Nat.zero_le _, World.ownsRow_nil _ _ _ _, Below.refl _ _, by omega⟩
  case round =>
    obtain ⟨i, vv, rfl, hvv, hi9, HO, HBr, hkx⟩ := hrel
    have HFL : Hid (((K.take i).filter (fun b => und M code b)).length ≤ i) := Nat.le_trans (List.length_filter_le _ _) (by rw [List.length_take]; omega)
    obtain ⟨L9, hL9⟩ : ∃ L9, L9 = (K.take i).filter (fun b => und M code b) := ⟨_, rfl⟩
    rw [← hL9] at HO HFL
    have HL9 := Lib.hid hL9
    clear hL9
    obtain ⟨a9, c9, rfl⟩ := own_form HO.out
    subst hvv
    by_cases hlt : i < K.length
    · obtain ⟨ab, off, p, rfl, hp, hf⟩ := G.out.five (H.out.later HBr.out) hlt
      have c0 := hf.c0
      have j0 : (0 : Int) ≤ (i : Int) := by omega
      have j1 : (i : Int) < (K.length : Int) := by omega
      obtain ⟨b, hb⟩ : ∃ b, b = K[i] := ⟨_, rfl⟩
      rw [← hb] at c0
      have HT : Hid ((K.take (i + 1)).filter (fun b => und M code b) = L9 ++ (if und M code b = true then [b] else [])) := by
        show _ = _
        rw [List.take_succ_eq_append_getElem hlt, List.filter_append, ← HL9.out, ← hb]
        congr 1
        by_cases hu : und M code b = true
        · simp [hu]
        · simp [hu]
      have KI := Lib.hid (KA.out b wr HBr.out)
      obtain ⟨r, hr⟩ : ∃ r, r = und M code b := ⟨_, rfl⟩
      rw [← hr] at HT KI
      clear hb hr hf hp
      go_wp2_with fail
      refine KI.out.mono ?_
      rintro e w5 ⟨rfl, rfl⟩
      cases r with
      | false =>
        go_wp2_with fail
        go_roundg (K.length - (i + 1))
        case measure => omega
        case rel => exact ⟨i + 1, _, by simp, rfl, by omega, by show World.ownsRow _ _ _ _ _ _ _; rw [HT.out]; simpa using HO.out, HBr, by omega⟩
      | true =>
        have hs5 := HBr.out.size
        have hfl := HFL.out
        go_wp2_with (at_builtin; refine wpList_append_own_at _ rfl _ _ TInts rfl w.heap.size TInt i0 (.int .i64 0) 1 8 Try.underlying82 hi0 hz0 hz1 hz2 rfl (by decide) _ _ _ rfl (HO.out.alloc _) ⟨wr.heap.size, 0, none⟩ 1 1 [iv b] rfl rfl (cell_one_new _ _ _) (by simp [Value.oneCell']) (by unfold maxLen; omega) (by omega) (by simp; omega) ?_)
        intro v' w6 hown hgrow hnil hat
        obtain ⟨a8, c8, rfl⟩ := own_form hown
        have HB6 : Hid (Below w.heap.size w w6) := (HBr.out.alloc hs5 _).grown hgrow (by simp; omega) (fun j hj => (HO.out.lt j hj).1)
        have HO6 := Lib.hid hown
        clear hown hgrow hnil hat
        go_wp2_with fail
        go_roundg (K.length - (i + 1))
        case measure => omega
        case rel => exact ⟨i + 1, _, by simp, rfl, by omega, by show World.ownsRow _ _ _ _ _ _ _; rw [HT.out]; simpa using HO6.out, HB6, by omega⟩
    · obtain rfl : i = K.length := by omega
      have HO9 : Hid (wr.ownsRow w.heap.size TInt 1 (.slice a9 L9.length c9) (undL M K code).length ((undL M K code).map iv)) := by
        have e : undL M K code = L9 := by rw [HL9.out, List.take_length]; rfl
        rw [e]
        exact HO.out
      clear hkx hlt hi9
      go_wp2_with fail
      go_ret
      exact ⟨_, rfl, HO9.out, HBr.out⟩
set_option maxRecDepth 100000 in
theorem leaf_ref (g : Gm M K) (cap : Nat) (code : Int) (h : Acs w a (lst M K)) : Calls Try.prog 52 #[.slice a K.length cap, .int .i64 code] w fun e w' => e = .returned (.bool (leafM M code)) ∧ Below w.heap.size w w' := by
  have KU := Lib.hid (under_ref g cap code h)
  unfold IntsRes at KU
  have hl : (undL M K code).length ≤ 9999 := Nat.le_trans (List.length_filter_le _ _) (g.wd.few g.ks)
  obtain ⟨r, hr⟩ : ∃ r, r = leafM M code := ⟨_, rfl⟩
  rw [← hr]
  have hr2 := hr.trans (g.leaf code)
  obtain ⟨L, hL⟩ : ∃ L, L = undL M K code := ⟨_, rfl⟩
  rw [← hL] at KU hr2 hl
  clear g h hr hL
  go_enter Try.func52, Try.ntmps52
  go_wp2_with fail
  refine KU.out.mono ?_
  rintro e w1 ⟨v, rfl, hv, hb⟩
  obtain ⟨va, vc, rfl⟩ := own_form hv
  clear hv
  by_cases e1 : L.length = 1
  · have hrt : r = true := by rw [hr2]; exact decide_eq_true e1
    subst hrt
    have b1 : ((L.length : Int) == 1) = true := by rw [e1]; rfl
    clear hr2 e1 KU
    go_wp2_with fail
    go_ret
    exact ⟨rfl, hb⟩
  · have hrf : r = false := by rw [hr2]; exact decide_eq_false e1
    subst hrf
    have b1 : ((L.length : Int) == 1) = false := by simp; omega
    clear hr2 e1 KU
    go_wp2_with fail
    go_ret
    exact ⟨rfl, hb⟩
end
end Go.Proofs.Ytnblilonjpfdnaa.Ch
end
section
namespace Go.Proofs.Ytnblilonjpfdnaa.Ch
open Go Go.RowKit Ck Go.Maps
/-- Append of a row that may be none. -/
theorem wpList_append_any {P : Program} {w : World} {ops : Array Oper} {rest : List Oper} {o : Oper} {a : Act} {Q : Exit → Act → World → Prop} (hgd : o.guard = none) (s x : Operand) (t : TypeId)
    (ho : o.op = .call { callee := .builtin .append, args := #[s, x], argTypes := #[t, t] })
    (base : Nat) (e : TypeId) (i : TypeInfo) (z : Value) (size bytes : Nat) (ht : P.underlying t = some (.slice e)) (hi : P.info? e = some i) (hz : i.zero = some z)
    (hsize : i.size = size) (hby : i.bytes = bytes) (hzs : z.cells.size = size) (hsz : 0 < size)
    (v : Value) (n : Nat) (xs : List Value) (hs : a.eval s = v) (hown : w.ownsRow base e size v n xs)
    (A : Option Addr) (m c : Nat) (news : List Value) (hx : a.eval x = .slice A m c)
    (hA : (A = none ∧ m = 0 ∧ c = 0 ∧ news = []) ∨ ∃ ad, A = some ad ∧ news.length = m * size ∧ ∀ j u, news[j]? = some u → w.cell? (ad.add j) = some u) (h1 : ∀ u ∈ news, u.oneCell' = true)
    (h63 : n + m ≤ maxLen) (hbytes : (n + m) * bytes ≤ 140737488355328) (hbase : base ≤ w.heap.size)
    (h : ∀ v' w', w'.ownsRow base e size v' (n + m) (xs ++ news) → w.grownBy w' v.ownBlock → (v'.ownBlock = v.ownBlock ∨ v'.ownBlock = some w.heap.size) → wpList P ops Q rest (a.put o.dst v') w') : wpList P ops Q (o :: rest) a w := by
  rcases hA with ⟨rfl, rfl, rfl, rfl⟩ | ⟨ad, rfl, hl, hnews⟩
  · have hr := run_append_owned_none (P := P) (w := w) base t o.type e i size ht hi v n xs hown
    refine wpList_plain hgd fun K hK => ?_
    unfold Oper.wp execOp
    simp only [ho, resolve, invoke, builtin, Sem.run_bind, Sem.run_pure, Result.andThen_ok, List.map_toArray, List.map_cons, List.map_nil, hs, hx, hr]
    exact hK _ _ (h v w (by simpa using hown) (World.grownBy.refl _ _) (.inl rfl))
  · exact wpList_append_own_at w hgd s x t ho base e i z size bytes ht hi hz hsize hby hzs hsz v n xs hs hown ad m c news hx hl hnews h1 h63 hbytes hbase fun v' w' h2 h3 _ h5 => h v' w' h2 h3 h5
theorem own_zero (W : World) (t base size : Nat) (hb : base ≤ W.heap.size) : (W.alloc (.cells #[] t)).ownsRow base t size (.slice (some ⟨W.heap.size, 0, none⟩) 0 0) 0 [] :=
  ⟨by simp, .inr ⟨W.heap.size, 0, #[], rfl, hb, heap_alloc_new W _, Nat.le_refl _, by unfold maxLen; omega, by simp, by simp⟩⟩
/-- The cells of a row of one's own. -/
theorem own_read {w : World} {base n g cap e size : Nat} {xs : List Value} (h : w.ownsRow base e size (.slice (some ⟨g, 0, none⟩) n cap) n xs) : n ≤ cap ∧ g < w.heap.size ∧ ∀ j u, xs[j]? = some u → w.cell? ⟨g, j, none⟩ = some u := by
  have hl := h.1
  rcases h.2 with ⟨h0, _⟩ | ⟨g', cap', cur, hv, _, hg, hc, _, _, ht⟩
  · cases h0
  · obtain ⟨rfl, rfl⟩ : g = g' ∧ cap = cap' := by simpa using hv
    refine ⟨hc, (Array.getElem?_eq_some_iff.1 hg).1, fun j u hu => ?_⟩
    have hi := (List.getElem?_eq_some_iff.1 hu).1
    have e : cur.toList[j]? = some u := by
      have := congrArg (fun l => l[j]?) ht
      rw [List.getElem?_take_of_lt (by omega)] at this
      rw [this]; exact hu
    simp only [World.cell?, hg]
    simpa using e
theorem flatA_one (A : List A5) : ∀ u ∈ flatA A, u.oneCell' = true := by
  intro u hu
  obtain ⟨x, _, hx⟩ := List.mem_flatMap.1 hu
  unfold A5.cells at hx
  simp only [List.mem_cons, List.not_mem_nil, or_false] at hx
  rcases hx with rfl | rfl | rfl | rfl | rfl <;> rfl
theorem lst_app (M : Int → Option Acc) (K L : List Int) : lst M (K ++ L) = lst M K ++ lst M L := by unfold lst; rw [List.map_append]
/-- Accounts whose told parts are kept. -/
theorem lst_congr {M M' : Int → Option Acc} {K : List Int} (h : ∀ c ∈ K, ((M' c).getD Acc.zero).told = ((M c).getD Acc.zero).told) : lst M' K = lst M K := by
  unfold lst
  exact List.map_congr_left h
/-- The first place whose code is not below. -/
def place : List Int → Int → Nat
  | [], _ => 0
  | c :: K, k => if c < k then place K k + 1 else 0
theorem place_le : ∀ (K : List Int) (k : Int), place K k ≤ K.length
  | [], _ => Nat.le_refl _
  | c :: K, k => by
    unfold place
    have := place_le K k
    split
    · simp only [List.length_cons]; omega
    · omega
theorem place_is : ∀ {K : List Int} (_ : Up K) (k : Int), (∀ c ∈ K.take (place K k), c < k) ∧ ∀ c ∈ K.drop (place K k), k ≤ c
  | [], _, k => ⟨fun c hc => by simp at hc, fun c hc => by simp at hc⟩
  | c :: K, hK, k => by
    have hp := List.pairwise_cons.1 hK
    unfold place
    by_cases h : c < k
    · rw [if_pos h]
      obtain ⟨h1, h2⟩ := place_is hp.2 k
      refine ⟨fun d hd => ?_, fun d hd => h2 d (by simpa using hd)⟩
      rw [List.take_succ_cons] at hd
      rcases List.mem_cons.1 hd with rfl | hd
      · exact h
      · exact h1 d hd
    · rw [if_neg h]
      refine ⟨fun d hd => by simp at hd, fun d hd => ?_⟩
      simp only [List.drop_zero] at hd
      rcases List.mem_cons.1 hd with rfl | hd
      · omega
      · have := hp.1 d hd; omega
/-- What a chart's list is behind Add. -/
theorem Gm.addKs {M : Int → Option Acc} {K : List Int} (g : Gm M K) {a : A5} (h0 : (Ch.addM M a).2 = 0) : Ks (Ch.addM M a).1 (ins K (place K a.code) a.code) ∧
    lst (Ch.addM M a).1 (ins K (place K a.code) a.code) = lst M (K.take (place K a.code)) ++ a :: lst M (K.drop (place K a.code)) := by
  obtain ⟨h1, h2⟩ := place_is g.ks.up a.code
  unfold Ch.addM at h0 ⊢
  by_cases hv : a.validB = false
  · rw [if_pos hv] at h0; cases h0
  rw [if_neg hv] at h0 ⊢
  by_cases hs : (M a.code).isSome = true
  · rw [if_pos hs] at h0; cases h0
  rw [if_neg hs] at h0 ⊢
  have hnK : a.code ∉ K := fun h => hs ((g.ks.mem _).1 h)
  have h3 : ∀ c ∈ K.drop (place K a.code), a.code < c := fun c hc => by
    have := h2 c hc
    have : c ≠ a.code := fun e => hnK (e ▸ List.mem_of_mem_drop hc)
    omega
  have told : ∀ (M' : Int → Option Acc) (x : Acc), x.told = a → (∀ c ∈ K, ((M' c).getD Acc.zero).told = ((M c).getD Acc.zero).told) → lst (upd M' a.code x) (ins K (place K a.code) a.code) = lst M (K.take (place K a.code)) ++ a :: lst M (K.drop (place K a.code)) := fun M' x hx hM => by
    unfold ins
    have hq : ∀ c ∈ K, ((upd M' a.code x c).getD Acc.zero).told = ((M c).getD Acc.zero).told := fun c hc => by
      have hne : c ≠ a.code := fun e => by rw [e] at hc; exact hnK hc
      rw [upd_ne _ _ hne]
      exact hM c hc
    rw [lst_app, lst_congr (M := M) (K := K.take _) fun c hc => hq c (List.mem_of_mem_take hc)]
    congr 1
    show ((upd M' a.code x a.code).getD Acc.zero).told :: lst (upd M' a.code x) (K.drop _) = _
    rw [upd_at, lst_congr (M := M) (K := K.drop _) fun c hc => hq c (List.mem_of_mem_drop hc)]
    congr 1
  by_cases hu : a.up = 0
  · rw [if_pos hu]
    exact ⟨g.ks.new _ h1 h3, told M _ rfl fun c _ => rfl⟩
  rw [if_neg hu] at h0 ⊢
  cases hp : M a.up with
  | none => simp only [hp] at h0; cases h0
  | some p =>
    simp only [hp] at h0 ⊢
    by_cases hbad : p.shut = true ∨ p.cls ≠ a.cls ∨ 8 ≤ p.depth
    · rw [if_pos hbad] at h0; cases h0
    rw [if_neg hbad]
    refine ⟨(g.ks.old (by rw [hp]; rfl) _).new _ h1 h3, told _ _ rfl fun c _ => ?_⟩
    by_cases e : c = a.up
    · subst e; rw [upd_at, hp]; rfl
    · rw [upd_ne _ _ e]
theorem addM_err {M : Int → Option Acc} {a : A5} (h : (addM M a).2 ≠ 0) : (addM M a).1 = M := by
  unfold Ch.addM at h ⊢
  split
  · rfl
  split
  · rfl
  split
  · rename_i h1 h2 h3; rw [if_neg h1, if_neg h2, if_pos h3] at h; exact absurd rfl h
  split
  · rfl
  · split
    · rfl
    · rename_i h1 h2 h3 _ p hp h4; rw [if_neg h1, if_neg h2, if_neg h3] at h; simp only [hp, if_neg h4] at h; exact absurd rfl h
end Go.Proofs.Ytnblilonjpfdnaa.Ch
end
section
namespace Go.Proofs.Ytnblilonjpfdnaa.Ch
open Go Go.RowKit Ck Go.Maps
set_option maxRecDepth 100000 in
theorem rside_c (w : World) (c : Int) : Calls Try.prog 32 #[.int .u8 c] w fun e w' => e = .returned (.int .i64 (sideM c)) ∧ w = w' := by
  unfold sideM
  by_cases h1 : c = 1
  · subst h1
    go_enter Try.func32, Try.ntmps32
    go_wp2_with fail
    go_ret
    exact ⟨rfl, rfl⟩
  by_cases h4 : c = 4
  · subst h4
    go_enter Try.func32, Try.ntmps32
    go_wp2_with fail
    go_ret
    exact ⟨rfl, rfl⟩
  by_cases h2 : c = 2
  · subst h2
    go_enter Try.func32, Try.ntmps32
    go_wp2_with fail
    go_ret
    exact ⟨rfl, rfl⟩
  by_cases h3 : c = 3
  · subst h3
    go_enter Try.func32, Try.ntmps32
    go_wp2_with fail
    go_ret
    exact ⟨rfl, rfl⟩
  by_cases h5 : c = 5
  · subst h5
    go_enter Try.func32, Try.ntmps32
    go_wp2_with fail
    go_ret
    exact ⟨rfl, rfl⟩
  rw [if_neg (by omega), if_neg (by omega)]
  have b1 : (c == 1) = false := beq_eq_false_iff_ne.2 h1
  have b2 : (c == 2) = false := beq_eq_false_iff_ne.2 h2
  have b3 : (c == 3) = false := beq_eq_false_iff_ne.2 h3
  have b4 : (c == 4) = false := beq_eq_false_iff_ne.2 h4
  have b5 : (c == 5) = false := beq_eq_false_iff_ne.2 h5
  clear h1 h2 h3 h4 h5
  go_enter Try.func32, Try.ntmps32
  go_wp2_with fail
  go_ret
  exact ⟨rfl, rfl⟩
theorem place_eq : ∀ {K : List Int} {code : Int} {i : Nat} (_ : ∀ j (h : j < K.length), j < i → K[j] < code) (_ : i ≤ K.length) (_ : ∀ h : i < K.length, ¬ K[i] < code), i = place K code
  | [], _, i, _, h2, _ => by simp at h2; subst h2; rfl
  | c :: K, code, i, h1, h2, h3 => by
    unfold place
    cases i with
    | zero => exact (if_neg (show ¬ c < code from h3 (by simp))).symm
    | succ i =>
      rw [if_pos (show c < code from h1 0 (by simp) (by omega))]
      congr 1
      exact place_eq (fun j hj hji => h1 (j + 1) (by simpa using hj) (by omega)) (by simpa using h2) (fun h => h3 (by simpa using h))
/-- What the document's Add and Shut answer. -/
def RRes (base : Nat) (M' : Int → Option Acc) (z : Int) (w : World) (e : Ending) (w' : World) : Prop :=
  ∃ (v' : Value) (K' : List Int), e = .returned (.tuple #[v', .int .i64 z]) ∧ Ks M' K' ∧ w'.ownsRow base TAc 5 v' K'.length (flatA (lst M' K')) ∧ Below w.heap.size w w'
section
variable {w : World} {M : Int → Option Acc} {K : List Int}
theorem rres_same {base : Nat} {v : Value} {z : Int} {w' : World} (g : Gm M K) (h : w.ownsRow base TAc 5 v K.length (flatA (lst M K))) (k : Below w.heap.size w w') : RRes base M z w (.returned (.tuple #[v, .int .i64 z])) w' :=
  ⟨v, K, rfl, g.ks, own_later h k, k⟩
end
end Go.Proofs.Ytnblilonjpfdnaa.Ch
end
section
namespace Go.Proofs.Ytnblilonjpfdnaa.Ch
open Go Go.RowKit Ck Go.Maps
/-- One cell of a row of one's own is written. -/
theorem own_set {w : World} {base e size n g cap j : Nat} {xs : List Value} (h : w.ownsRow base e size (.slice (some ⟨g, 0, none⟩) n cap) n xs) (hj : j < xs.length) (v : Value) : (w.setCell ⟨g, j, none⟩ v).ownsRow base e size (.slice (some ⟨g, 0, none⟩) n cap) n (xs.set j v) := by
  have hl := h.1
  rcases h.2 with ⟨h0, _⟩ | ⟨g', cap', cur, hv, hb, hg, hc, hm, hs, ht⟩
  · cases h0
  · obtain ⟨rfl, rfl⟩ : g = g' ∧ cap = cap' := by simpa using hv
    have hlt := (Array.getElem?_eq_some_iff.1 hg).1
    have hjc : j < cur.size := by
      have := congrArg List.length ht
      rw [List.length_take] at this
      have h2 : cur.toList.length = cur.size := by simp
      omega
    refine ⟨by rw [List.length_set]; exact hl, .inr ⟨g, cap, cur.set j v hjc, rfl, hb, ?_, hc, hm, by simpa using hs, ?_⟩⟩
    · simp [World.setCell, hlt, Array.getElem_modify, (Array.getElem?_eq_some_iff.1 hg).2]
      rw [Array.setIfInBounds, dif_pos hjc]
    · rw [Array.toList_set, ← ht, List.take_set]
theorem own_unfrozen {w : World} {base e size n g cap : Nat} {xs : List Value} (h : w.ownsRow base e size (.slice (some ⟨g, 0, none⟩) n cap) n xs) (i : Nat) : w.frozen? ⟨g, i, none⟩ = false := by
  rcases h.2 with ⟨h0, _⟩ | ⟨g', cap', cur, hv, _, hh, _⟩
  · cases h0
  · obtain ⟨rfl, rfl⟩ : g = g' ∧ cap = cap' := by simpa using hv
    simp [World.frozen?, hh]
theorem flatA_shut (A B : List A5) (x : A5) : (flatA (A ++ x :: B)).set (A.length * 5 + 4) (.bool true) = flatA (A ++ ⟨x.code, x.up, x.cls, x.name, true⟩ :: B) := by
  rw [flatA_app, flatA_app]
  have e : ∀ y : A5, flatA (y :: B) = y.cells ++ flatA B := fun y => rfl
  rw [e, e, List.set_append_right _ _ (by rw [flatA_len]; omega), flatA_len, show A.length * 5 + 4 - A.length * 5 = 4 by omega]
  rfl
theorem lst_shut' {M : Int → Option Acc} {A B : List Int} {c : Int} {p : Acc} (h1 : ∀ d ∈ A, d ≠ c) (h2 : ∀ d ∈ B, d ≠ c) (hp : M c = some p) : flatA (lst (upd M c p.shutIt) (A ++ c :: B)) = (flatA (lst M (A ++ c :: B))).set (A.length * 5 + 4) (.bool true) := by
  have e1 : lst M (A ++ c :: B) = lst M A ++ p.told :: lst M B := by
    rw [lst_app]
    congr 1
    show ((M c).getD Acc.zero).told :: _ = _
    rw [hp]; rfl
  have e2 : lst (upd M c p.shutIt) (A ++ c :: B) = lst M A ++ p.shutIt.told :: lst M B := by
    rw [lst_app, lst_congr (M := M) (K := A) fun d hd => by rw [upd_ne _ _ (h1 d hd)]]
    congr 1
    show ((upd M c p.shutIt c).getD Acc.zero).told :: lst (upd M c p.shutIt) B = _
    rw [upd_at, lst_congr (M := M) (K := B) fun d hd => by rw [upd_ne _ _ (h2 d hd)]]
    rfl
  rw [e1, e2]
  have := flatA_shut (lst M A) (lst M B) p.told
  rw [lst_len] at this
  rw [this]
  rfl
theorem lst_shut {M : Int → Option Acc} {K : List Int} (hK : Up K) {k : Nat} (hk : k < K.length) {p : Acc} (hp : M K[k] = some p) : flatA (lst (upd M K[k] p.shutIt) K) = (flatA (lst M K)).set (k * 5 + 4) (.bool true) := by
  have e : K.take k ++ K[k] :: K.drop (k + 1) = K := by rw [List.getElem_cons_drop, List.take_append_drop]
  have h1 : ∀ c ∈ K.take k, c ≠ K[k] := fun c hc e' => by
    obtain ⟨j, hj, rfl⟩ := List.getElem_of_mem hc
    rw [List.length_take] at hj
    rw [List.getElem_take] at e'
    have := up_le hK (show j < k by omega) hk
    omega
  have h2 : ∀ c ∈ K.drop (k + 1), c ≠ K[k] := fun c hc e' => by
    obtain ⟨j, hj, rfl⟩ := List.getElem_of_mem hc
    rw [List.length_drop] at hj
    rw [List.getElem_drop] at e'
    have := up_le hK (show k < k + 1 + j by omega) (by omega)
    omega
  have := lst_shut' h1 h2 hp
  rw [e, List.length_take, Nat.min_eq_left (by omega)] at this
  exact this
section
variable {w : World} {M : Int → Option Acc} {K : List Int}
end
end Go.Proofs.Ytnblilonjpfdnaa.Ch
end
section
namespace Go.Proofs.Ytnblilonjpfdnaa.Ch
open Go Go.RowKit Ck Go.Maps
/-- Blocks of accounts stay. -/
def Stay (w w' : World) : Prop := ∀ (g : Nat) (cs : Array Value), w.heap[g]? = some (Obj.cells cs TAc (0, 0)) → w'.heap[g]? = some (Obj.cells cs TAc (0, 0))
theorem Stay.of {w w' : World} (h : Below w.heap.size w w') : Stay w w' := fun g _ hg => (h.block g (Array.getElem?_eq_some_iff.1 hg).1).trans hg
theorem Stay.refl (w : World) : Stay w w := fun _ _ h => h
theorem Stay.trans {w w' w'' : World} (h : Stay w w') (k : Stay w' w'') : Stay w w'' := fun g cs hg => k g cs (h g cs hg)
theorem Stay.rw {w w' : World} (h : Stay w w') {b : Nat} {L : List Value} (r : Rw w b TAc L) : Rw w' b TAc L := h b _ r
theorem Stay.own {w w' : World} (h : Stay w w') {base n : Nat} {v : Value} {xs : List Value} (r : w.ownsRow base TAc 5 v n xs) : w'.ownsRow base TAc 5 v n xs := by
  rcases r.2 with ⟨rfl, h0⟩ | ⟨g, cap, cur, rfl, hb, hg, k⟩
  · exact ⟨r.1, .inl ⟨rfl, h0⟩⟩
  · exact ⟨r.1, .inr ⟨g, cap, cur, rfl, hb, h g _ hg, k⟩⟩
/-- A chart that is right, in memory from base on. -/
def Ct (base : Nat) (w : World) (c : Nat) (M : Int → Option Acc) (K : List Int) (N : Nat) : Prop := ∃ bm tv n, At w c bm tv n M K ∧ Gm M K ∧ Kd N M ∧ n ≤ 2 * N ∧ ∀ j, Bs c bm tv j → base ≤ j
section
variable {base c N : Nat} {w w' : World} {M : Int → Option Acc} {K : List Int}
theorem Ct.gm (h : Ct base w c M K N) : Gm M K := by
  obtain ⟨bm, tv, n, h1, h2, _⟩ := h
  exact h2
theorem Ct.later (h : Ct base w c M K N) (k : Below w.heap.size w w') : Ct base w' c M K N := by
  obtain ⟨bm, tv, n, h1, h2⟩ := h
  exact ⟨bm, tv, n, h1.later k, h2⟩
theorem Ct.lower (h : Ct base w c M K N) {b : Nat} (hb : b ≤ base) : Ct b w c M K N := by
  obtain ⟨bm, tv, n, h1, h2, h3, h4, h5⟩ := h
  exact ⟨bm, tv, n, h1, h2, h3, h4, fun j hj => Nat.le_trans hb (h5 j hj)⟩
/-- What an operation leaves. -/
structure Left (base : Nat) (w w' : World) : Prop where
  b : Below base w w'
  s : Stay w w'
theorem Left.of {base : Nat} {w w' : World} (h : Below w.heap.size w w') (hb : base ≤ w.heap.size) : Left base w w' := ⟨h.mono hb, Stay.of h⟩
theorem Left.trans {base : Nat} {w w' w'' : World} (h : Left base w w') (k : Left base w' w'') : Left base w w'' := ⟨h.b.trans k.b, h.s.trans k.s⟩
theorem At.left {bm n : Nat} {tv : Value} (h : At w c bm tv n M K) (k : Keeps (Bs c bm tv) w w') (hb : ∀ j, Bs c bm tv j → base ≤ j) (hw : base ≤ w.heap.size) : Left base w w' := by
  refine ⟨k.below hb hw, fun g cs hg => (k.block g (Array.getElem?_eq_some_iff.1 hg).1 fun hB => ?_).trans hg⟩
  rcases hB with rfl | rfl | hB
  · have := h.blk.symm.trans hg
    injection this with this
    injection this with _ h2
    exact absurd h2 (by decide)
  · obtain ⟨D, ⟨es, clock, hb, _⟩, _⟩ := h.mp
    have := hb.symm.trans hg
    injection this with this
    cases this
  · rcases h.own.2 with ⟨rfl, _⟩ | ⟨g', cap, cur, rfl, _, hg', _⟩
    · cases hB
    · injection hB with e
      subst e
      have := hg'.symm.trans hg
      injection this with this
      injection this with _ h2
      exact absurd h2 (by decide)
theorem Ct.few (h : Ct base w c M K N) : K.length ≤ 9999 := h.gm.wd.few h.gm.ks
theorem ct_new (w : World) : Calls Try.prog 34 #[] w fun e w' => ∃ c, e = .returned (.pointer (some ⟨c, 0, none⟩)) ∧ Ct w.heap.size w' c (fun _ => none) [] 0 ∧ Left w.heap.size w w' :=
  (new_c w).mono fun e w' ⟨c, bm, h1, h2, h3, h4⟩ => ⟨c, h1, ⟨bm, _, 0, h2, Gm.empty, Kd.empty, by omega, h4⟩, Left.of h3 (Nat.le_refl _)⟩
theorem Gm.addEx (g : Gm M K) (a : A5) {bm tv n} (h : At w c bm tv n (Ch.addM M a).1 K) : Gm (Ch.addM M a).1 K := g.addM a h.ks
def ARes (base c : Nat) (M' : Int → Option Acc) (N' : Nat) (z : Int) (w : World) (e : Ending) (w' : World) : Prop := e = .returned (.int .i64 z) ∧ (∃ K', Ct base w' c M' K' N') ∧ Left base w w'
theorem ct_add (h : Ct base w c M K N) (hb : base ≤ w.heap.size) (a : A5) (hf : a.Fits) (hN : N ≤ 400000) : Calls Try.prog 36 #[.pointer (some ⟨c, 0, none⟩), a.val] w (ARes base c (addM M a).1 (N + 1) (addM M a).2 w) := by
  have hk := h.few
  obtain ⟨bm, tv, n, h1, h2, h3, h4, h5⟩ := h
  refine (add_c h1 a hf (by omega) (by omega) (h2.wd.bd h3 (by omega))).mono ?_
  rintro e w' ⟨rfl, tv', K', n', k1, k1', k2, k3, k4⟩
  exact ⟨rfl, ⟨K', bm, tv', n', k2, h2.addM a k2.ks, h3.add a, by omega, fun j hj => (k4 j hj).elim (h5 j) (Nat.le_trans hb)⟩, h1.left k3 h5 hb⟩
/-- What is there stays as it is. -/
theorem ct_there (h : Ct base w c M K N) (hb : base ≤ w.heap.size) (a : A5) (hf : a.Fits) (hN : N ≤ 400000) (ha : addM M a = (M, 8)) : Calls Try.prog 36 #[.pointer (some ⟨c, 0, none⟩), a.val] w (ARes base c M N 8 w) := by
  have hk := h.few
  obtain ⟨bm, tv, n, h1, h2, h3, h4, h5⟩ := h
  refine (add_c h1 a hf (by omega) (by omega) (h2.wd.bd h3 (by omega))).mono ?_
  rw [ha]
  rintro e w' ⟨rfl, tv', K', n', k1, k1', k2, k3, k4⟩
  refine ⟨rfl, ⟨K', bm, tv', n', k2, ?_, h3, ?_, fun j hj => (k4 j hj).elim (h5 j) (Nat.le_trans hb)⟩, h1.left k3 h5 hb⟩
  · have : K' = K := k2.ks.unique h1.ks
    rw [this]; exact h2
  · rcases k1' with e | e
    · exact absurd (show (8 : Int) = 0 from e) (by decide)
    · omega
theorem Kd.shutM (h : Kd N M) (code : Int) : Kd (N + 1) (shutM M K code).1 := by
  have h1 : Kd (N + 1) M := h.more (by omega)
  unfold Ch.shutM
  split
  · exact h1
  split
  · exact h1
  · rename_i h2 _
    cases hm : M code with
    | none => rw [hm] at h2; exact absurd rfl h2
    | some p => exact h1.upd (h1 code p hm)
theorem ct_shut (h : Ct base w c M K N) (hb : base ≤ w.heap.size) (code : Int) (hc : I64 code) (hN : N ≤ 400000) : Calls Try.prog 11 #[.pointer (some ⟨c, 0, none⟩), .int .i64 code] w (ARes base c (shutM M K code).1 (N + 1) (shutM M K code).2 w) := by
  have hk := h.few
  obtain ⟨bm, tv, n, h1, h2, h3, h4, h5⟩ := h
  refine (shut_c h1 h2.wd code hc (by omega) (by omega)).mono ?_
  rintro e w' ⟨rfl, tv', K', n', k1, k1', k2, k3, k4⟩
  exact ⟨rfl, ⟨K', bm, tv', n', k2, h2.shutM code k2.ks, h3.shutM code, by omega, fun j hj => (k4 j hj).elim (h5 j) (Nat.le_trans hb)⟩, h1.left k3 h5 hb⟩
theorem ct_under (h : Ct base w c M K N) (code : Int) (hc : I64 code) : Calls Try.prog 39 #[.pointer (some ⟨c, 0, none⟩), .int .i64 code] w (IntsRes (undL M K code) w) := by
  have hk := h.few
  obtain ⟨bm, tv, n, h1, h2, _⟩ := h
  exact under_c h1 h2.wd code hc (by omega)
theorem ct_leaf (h : Ct base w c M K N) (code : Int) (hc : I64 code) : Calls Try.prog 33 #[.pointer (some ⟨c, 0, none⟩), .int .i64 code] w fun e w' => e = .returned (.bool (leafM M code)) ∧ Below w.heap.size w w' := by
  obtain ⟨bm, tv, n, h1, _⟩ := h
  exact leaf_c h1 code hc
theorem ct_get (h : Ct base w c M K N) (code : Int) (hc : I64 code) : Calls Try.prog 31 #[.pointer (some ⟨c, 0, none⟩), .int .i64 code] w fun e w' => e = .returned (.tuple #[(getM M code).1.val, .int .i64 (getM M code).2]) ∧ Below w.heap.size w w' := by
  obtain ⟨bm, tv, n, h1, _⟩ := h
  exact gets_c h1 code hc
theorem ct_all (h : Ct base w c M K N) : Calls Try.prog 20 #[.pointer (some ⟨c, 0, none⟩)] w (AccsRes (lst M K) w) := by
  have hk := h.few
  obtain ⟨bm, tv, n, h1, h2, _⟩ := h
  exact all_c h1 h2.wd (by omega)
end
/-- A chart beside a list of numbers. -/
def Cf (base : Nat) (v : Value) (w : World) (c : Nat) (M : Int → Option Acc) (K : List Int) (N : Nat) : Prop := ∃ bm tv n, At w c bm tv n M K ∧ Gm M K ∧ Kd N M ∧ n ≤ 2 * N ∧ (∀ j, Bs c bm tv j → base ≤ j) ∧ ∀ j, v.ownBlock = some j → ¬ Bs c bm tv j
section
variable {base c N b0 n0 : Nat} {w w' : World} {M : Int → Option Acc} {K : List Int} {v : Value} {xs : List Value}
theorem Cf.ct (h : Cf base v w c M K N) : Ct base w c M K N := by
  obtain ⟨bm, tv, n, h1, h2, h3, h4, h5, _⟩ := h
  exact ⟨bm, tv, n, h1, h2, h3, h4, h5⟩
theorem Cf.later (h : Cf base v w c M K N) (k : Below w.heap.size w w') : Cf base v w' c M K N := by
  obtain ⟨bm, tv, n, h1, h2⟩ := h
  exact ⟨bm, tv, n, h1.later k, h2⟩
theorem Ct.cf (h : Ct base w c M K N) (k : Below w.heap.size w w') (hv : ∀ j, v.ownBlock = some j → w.heap.size ≤ j) : Cf base v w' c M K N := by
  obtain ⟨bm, tv, n, h1, h2, h3, h4, h5⟩ := h
  exact ⟨bm, tv, n, h1.later k, h2, h3, h4, h5, fun j hj hB => absurd (h1.lt j hB) (Nat.not_lt.2 (hv j hj))⟩
def FRes (base c : Nat) (v : Value) (b0 n0 : Nat) (xs : List Value) (M' : Int → Option Acc) (N' : Nat) (z : Int) (w : World) (e : Ending) (w' : World) : Prop := e = .returned (.int .i64 z) ∧ (∃ K', Cf base v w' c M' K' N') ∧ Left base w w' ∧ w'.ownsRow b0 TInt 1 v n0 xs
theorem cf_add (h : Cf base v w c M K N) (hb : base ≤ w.heap.size) (ho : w.ownsRow b0 TInt 1 v n0 xs) (a : A5) (hf : a.Fits) (hN : N ≤ 400000) : Calls Try.prog 36 #[.pointer (some ⟨c, 0, none⟩), a.val] w (FRes base c v b0 n0 xs (addM M a).1 (N + 1) (addM M a).2 w) := by
  have hk := h.ct.few
  obtain ⟨bm, tv, n, h1, h2, h3, h4, h5, h6⟩ := h
  refine (add_c h1 a hf (by omega) (by omega) (h2.wd.bd h3 (by omega))).mono ?_
  rintro e w' ⟨rfl, tv', K', n', k1, k1', k2, k3, k4⟩
  exact ⟨rfl, ⟨K', bm, tv', n', k2, h2.addM a k2.ks, h3.add a, by omega, fun j hj => (k4 j hj).elim (h5 j) (Nat.le_trans hb), fun j hj hB => (k4 j hB).elim (h6 j hj) fun h => Nat.not_lt.2 h (ho.lt j hj).2⟩, h1.left k3 h5 hb, own_keeps ho k3 h6⟩
theorem cf_shut (h : Cf base v w c M K N) (hb : base ≤ w.heap.size) (ho : w.ownsRow b0 TInt 1 v n0 xs) (code : Int) (hc : I64 code) (hN : N ≤ 400000) : Calls Try.prog 11 #[.pointer (some ⟨c, 0, none⟩), .int .i64 code] w (FRes base c v b0 n0 xs (shutM M K code).1 (N + 1) (shutM M K code).2 w) := by
  have hk := h.ct.few
  obtain ⟨bm, tv, n, h1, h2, h3, h4, h5, h6⟩ := h
  refine (shut_c h1 h2.wd code hc (by omega) (by omega)).mono ?_
  rintro e w' ⟨rfl, tv', K', n', k1, k1', k2, k3, k4⟩
  exact ⟨rfl, ⟨K', bm, tv', n', k2, h2.shutM code k2.ks, h3.shutM code, by omega, fun j hj => (k4 j hj).elim (h5 j) (Nat.le_trans hb), fun j hj hB => (k4 j hB).elim (h6 j hj) fun h => Nat.not_lt.2 h (ho.lt j hj).2⟩, h1.left k3 h5 hb, own_keeps ho k3 h6⟩
end
def lit (L : List UInt8) : ByteArray := ⟨L.toArray⟩
def stdL : List A5 := [⟨1100, 0, 1, ⟨#[67, 97, 115, 104]⟩, false⟩, ⟨1200, 0, 1, ⟨#[82, 101, 99, 101, 105, 118, 97, 98, 108, 101]⟩, false⟩, ⟨2100, 0, 2, ⟨#[68, 101, 102, 101, 114, 114, 101, 100]⟩, false⟩, ⟨2200, 0, 2, ⟨#[85, 110, 97, 112, 112, 108, 105, 101, 100]⟩, false⟩, ⟨3100, 0, 3, ⟨#[82, 101, 118, 101, 110, 117, 101]⟩, false⟩, ⟨4100, 0, 4, ⟨#[76, 111, 115, 116]⟩, false⟩]
theorem acs_rw {w : World} {b : Nat} {A : List A5} (h : Rw w b TAc (flatA A)) : Acs w (some ⟨b, 0, none⟩) A := fun j hj => ⟨b, 0, rfl, h.lt, fun i v hv => by
  rw [Nat.zero_add, h.cell]
  exact flatA_at A j hj i v hv⟩
def StdRes (w : World) (e : Ending) (w' : World) : Prop := ∃ b, e = .returned (.slice (some ⟨b, 0, none⟩) 6 6) ∧ w.heap.size ≤ b ∧ Rw w' b TAc (flatA stdL) ∧ Below w.heap.size w w'
set_option maxRecDepth 100000 in
theorem std_c (w : World) : Calls Try.prog 35 #[] w (StdRes w) := by
  go_enter Try.func35, Try.ntmps35
  go_wp2_with fail
  go_ret
  exact ⟨_, rfl, Nat.le_refl _, Rw.new w _ _, (Below.refl _ w).alloc (Nat.le_refl _) _⟩
end Go.Proofs.Ytnblilonjpfdnaa.Ch
end
