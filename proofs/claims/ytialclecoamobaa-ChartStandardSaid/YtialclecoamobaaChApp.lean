/- Package chart: rows put together. -/
import Derived.Test.YtialclecoamobaaChRef2
import Derived.Laws.AppendOwnNone
import Derived.Maps.AppendAt
namespace Go.Proofs.Ytialclecoamobaa.Ch
open Go Go.RowKit Ck Go.Maps
/-- Append of a row that may be none. -/
theorem wpList_append_any {P : Program} {w : World} {ops : Array Oper} {rest : List Oper} {o : Oper} {a : Act} {Q : Exit → Act → World → Prop} (hgd : o.guard = none) (s x : Operand) (t : TypeId)
    (ho : o.op = .call { callee := .builtin .append, args := #[s, x], argTypes := #[t, t] })
    (base : Nat) (e : TypeId) (i : TypeInfo) (z : Value) (size bytes : Nat) (ht : P.underlying t = some (.slice e)) (hi : P.info? e = some i) (hz : i.zero = some z)
    (hsize : i.size = size) (hby : i.bytes = bytes) (hzs : z.cells.size = size) (hsz : 0 < size)
    (v : Value) (n : Nat) (xs : List Value) (hs : a.eval s = v) (hown : w.ownsRow base e size v n xs)
    (A : Option Addr) (m c : Nat) (news : List Value) (hx : a.eval x = .slice A m c)
    (hA : (A = none ∧ m = 0 ∧ c = 0 ∧ news = []) ∨ ∃ ad, A = some ad ∧ news.length = m * size ∧ ∀ j u, news[j]? = some u → w.cell? (ad.add j) = some u) (h1 : ∀ u ∈ news, u.oneCell' = true)
    (h63 : n + m ≤ maxLen) (hbytes : (n + m) * bytes ≤ 140737488355328) (hbase : base ≤ w.heap.size)
    (h : ∀ v' w', w'.ownsRow base e size v' (n + m) (xs ++ news) → w.grownBy w' v.ownBlock → (v'.ownBlock = v.ownBlock ∨ v'.ownBlock = some w.heap.size) → wpList P ops Q rest (a.put o.dst v') w') : wpList P ops Q (o :: rest) a w := by
  rcases hA with ⟨rfl, rfl, rfl, rfl⟩ | ⟨ad, rfl, hl, hnews⟩
  · have hr := run_append_owned_none (P := P) (w := w) base t o.type e i size ht hi v n xs hown
    refine wpList_plain hgd fun K hK => ?_
    unfold Oper.wp execOp
    simp only [ho, resolve, invoke, builtin, Sem.run_bind, Sem.run_pure, Result.andThen_ok, List.map_toArray, List.map_cons, List.map_nil, hs, hx, hr]
    exact hK _ _ (h v w (by simpa using hown) (World.grownBy.refl _ _) (.inl rfl))
  · exact wpList_append_own_at w hgd s x t ho base e i z size bytes ht hi hz hsize hby hzs hsz v n xs hs hown ad m c news hx hl hnews h1 h63 hbytes hbase fun v' w' h2 h3 _ h5 => h v' w' h2 h3 h5
theorem own_zero (W : World) (t base size : Nat) (hb : base ≤ W.heap.size) : (W.alloc (.cells #[] t)).ownsRow base t size (.slice (some ⟨W.heap.size, 0, none⟩) 0 0) 0 [] :=
  ⟨by simp, .inr ⟨W.heap.size, 0, #[], rfl, hb, heap_alloc_new W _, Nat.le_refl _, by unfold maxLen; omega, by simp, by simp⟩⟩
/-- The cells of a row of one's own. -/
theorem own_read {w : World} {base n g cap e size : Nat} {xs : List Value} (h : w.ownsRow base e size (.slice (some ⟨g, 0, none⟩) n cap) n xs) : n ≤ cap ∧ g < w.heap.size ∧ ∀ j u, xs[j]? = some u → w.cell? ⟨g, j, none⟩ = some u := by
  have hl := h.1
  rcases h.2 with ⟨h0, _⟩ | ⟨g', cap', cur, hv, _, hg, hc, _, _, ht⟩
  · cases h0
  · obtain ⟨rfl, rfl⟩ : g = g' ∧ cap = cap' := by simpa using hv
    refine ⟨hc, (Array.getElem?_eq_some_iff.1 hg).1, fun j u hu => ?_⟩
    have hi := (List.getElem?_eq_some_iff.1 hu).1
    have e : cur.toList[j]? = some u := by
      have := congrArg (fun l => l[j]?) ht
      rw [List.getElem?_take_of_lt (by omega)] at this
      rw [this]; exact hu
    simp only [World.cell?, hg]
    simpa using e
theorem flatA_one (A : List A5) : ∀ u ∈ flatA A, u.oneCell' = true := by
  intro u hu
  obtain ⟨x, _, hx⟩ := List.mem_flatMap.1 hu
  unfold A5.cells at hx
  simp only [List.mem_cons, List.not_mem_nil, or_false] at hx
  rcases hx with rfl | rfl | rfl | rfl | rfl <;> rfl
theorem lst_app (M : Int → Option Acc) (K L : List Int) : lst M (K ++ L) = lst M K ++ lst M L := by unfold lst; rw [List.map_append]
/-- Accounts whose told parts are kept. -/
theorem lst_congr {M M' : Int → Option Acc} {K : List Int} (h : ∀ c ∈ K, ((M' c).getD Acc.zero).told = ((M c).getD Acc.zero).told) : lst M' K = lst M K := by
  unfold lst
  exact List.map_congr_left h
/-- The first place whose code is not below. -/
def place : List Int → Int → Nat
  | [], _ => 0
  | c :: K, k => if c < k then place K k + 1 else 0
theorem place_le : ∀ (K : List Int) (k : Int), place K k ≤ K.length
  | [], _ => Nat.le_refl _
  | c :: K, k => by
    unfold place
    have := place_le K k
    split
    · simp only [List.length_cons]; omega
    · omega
theorem place_is : ∀ {K : List Int} (_ : Up K) (k : Int), (∀ c ∈ K.take (place K k), c < k) ∧ ∀ c ∈ K.drop (place K k), k ≤ c
  | [], _, k => ⟨fun c hc => by simp at hc, fun c hc => by simp at hc⟩
  | c :: K, hK, k => by
    have hp := List.pairwise_cons.1 hK
    unfold place
    by_cases h : c < k
    · rw [if_pos h]
      obtain ⟨h1, h2⟩ := place_is hp.2 k
      refine ⟨fun d hd => ?_, fun d hd => h2 d (by simpa using hd)⟩
      rw [List.take_succ_cons] at hd
      rcases List.mem_cons.1 hd with rfl | hd
      · exact h
      · exact h1 d hd
    · rw [if_neg h]
      refine ⟨fun d hd => by simp at hd, fun d hd => ?_⟩
      simp only [List.drop_zero] at hd
      rcases List.mem_cons.1 hd with rfl | hd
      · omega
      · have := hp.1 d hd; omega
/-- What a chart's list is behind Add. -/
theorem Gm.addKs {M : Int → Option Acc} {K : List Int} (g : Gm M K) {a : A5} (h0 : (Ch.addM M a).2 = 0) : Ks (Ch.addM M a).1 (ins K (place K a.code) a.code) ∧
    lst (Ch.addM M a).1 (ins K (place K a.code) a.code) = lst M (K.take (place K a.code)) ++ a :: lst M (K.drop (place K a.code)) := by
  obtain ⟨h1, h2⟩ := place_is g.ks.up a.code
  unfold Ch.addM at h0 ⊢
  by_cases hv : a.validB = false
  · rw [if_pos hv] at h0; cases h0
  rw [if_neg hv] at h0 ⊢
  by_cases hs : (M a.code).isSome = true
  · rw [if_pos hs] at h0; cases h0
  rw [if_neg hs] at h0 ⊢
  have hnK : a.code ∉ K := fun h => hs ((g.ks.mem _).1 h)
  have h3 : ∀ c ∈ K.drop (place K a.code), a.code < c := fun c hc => by
    have := h2 c hc
    have : c ≠ a.code := fun e => hnK (e ▸ List.mem_of_mem_drop hc)
    omega
  have told : ∀ (M' : Int → Option Acc) (x : Acc), x.told = a → (∀ c ∈ K, ((M' c).getD Acc.zero).told = ((M c).getD Acc.zero).told) → lst (upd M' a.code x) (ins K (place K a.code) a.code) = lst M (K.take (place K a.code)) ++ a :: lst M (K.drop (place K a.code)) := fun M' x hx hM => by
    unfold ins
    have hq : ∀ c ∈ K, ((upd M' a.code x c).getD Acc.zero).told = ((M c).getD Acc.zero).told := fun c hc => by
      have hne : c ≠ a.code := fun e => by rw [e] at hc; exact hnK hc
      rw [upd_ne _ _ hne]
      exact hM c hc
    rw [lst_app, lst_congr (M := M) (K := K.take _) fun c hc => hq c (List.mem_of_mem_take hc)]
    congr 1
    show ((upd M' a.code x a.code).getD Acc.zero).told :: lst (upd M' a.code x) (K.drop _) = _
    rw [upd_at, lst_congr (M := M) (K := K.drop _) fun c hc => hq c (List.mem_of_mem_drop hc)]
    congr 1
  by_cases hu : a.up = 0
  · rw [if_pos hu]
    exact ⟨g.ks.new _ h1 h3, told M _ rfl fun c _ => rfl⟩
  rw [if_neg hu] at h0 ⊢
  cases hp : M a.up with
  | none => simp only [hp] at h0; cases h0
  | some p =>
    simp only [hp] at h0 ⊢
    by_cases hbad : p.shut = true ∨ p.cls ≠ a.cls ∨ 8 ≤ p.depth
    · rw [if_pos hbad] at h0; cases h0
    rw [if_neg hbad]
    refine ⟨(g.ks.old (by rw [hp]; rfl) _).new _ h1 h3, told _ _ rfl fun c _ => ?_⟩
    by_cases e : c = a.up
    · subst e; rw [upd_at, hp]; rfl
    · rw [upd_ne _ _ e]
theorem addM_err {M : Int → Option Acc} {a : A5} (h : (addM M a).2 ≠ 0) : (addM M a).1 = M := by
  unfold Ch.addM at h ⊢
  split
  · rfl
  split
  · rfl
  split
  · rename_i h1 h2 h3; rw [if_neg h1, if_neg h2, if_pos h3] at h; exact absurd rfl h
  split
  · rfl
  · split
    · rfl
    · rename_i h1 h2 h3 _ p hp h4; rw [if_neg h1, if_neg h2, if_neg h3] at h; simp only [hp, if_neg h4] at h; exact absurd rfl h
end Go.Proofs.Ytialclecoamobaa.Ch
