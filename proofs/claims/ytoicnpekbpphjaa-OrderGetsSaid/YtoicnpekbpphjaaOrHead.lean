/- Package order: what stands against a statement's bounds; the calls whose answers the document fixes. -/
import Derived.Test.YtoicnpekbpphjaaOrRGet
import Derived.Test.YtoicnpekbpphjaaOrPGet2
import Derived.Test.YtoicnpekbpphjaaOrAbove
import Derived.Test.YtoicnpekbpphjaaOrRCmp
namespace Go.Proofs.Ytoicnpekbpphjaa.Or
open Go.RowKit Cm
theorem pget_c (K F : ByteArray) (w : World) (hK : K.size ≤ 1000) (hF : F.size ≤ 100000) : Calls Try.prog 16 #[.string K, .string F] w (GetRes K.data.toList F.data.toList w) := by
  cases hk : kindsB K.data.toList with
  | false => exact pget_no K F w (by omega) hF (.inl hk)
  | true =>
    by_cases hl : 1024 < F.size
    · exact pget_no K F w (by omega) hF (.inr ⟨hk, hl⟩)
    · exact pget_in K F w hK hk (by omega)
theorem rget_c (K F : ByteArray) (w : World) (hK : K.size ≤ 1000) (hF : F.size ≤ 100000) : Calls Try.prog 17 #[.string K, .string F] w (GetRes K.data.toList F.data.toList w) := by
  cases hk : kindsB K.data.toList with
  | false => exact rget_no K F w (by omega) hF (.inl hk)
  | true =>
    by_cases hl : 1024 < F.size
    · exact rget_no K F w (by omega) hF (.inr ⟨hk, hl⟩)
    · exact rget_in K F w hK hk (by omega)
theorem put_good {K : List UInt8} {L : List Fd} {B : List UInt8} (hok : ∀ f ∈ L, f.ok) (h : putF K L = (B, 0)) : kindsB K = true ∧ fitB K L = true ∧ Good K L B ∧ B.length ≤ 1024 := by
  cases hk : kindsB K with
  | false => rw [put_kinds hk] at h; simp at h
  | true =>
    cases hf : fitB K L with
    | false => rw [put_unfit hk hf] at h; simp at h
    | true =>
      rcases Nat.lt_or_ge 1024 (encAll K L).length with hl | hl
      · rw [put_long hk hf hl] at h; simp at h
      · rw [put_ok hk hf hl] at h
        obtain ⟨rfl, -⟩ := Prod.mk.inj h
        exact ⟨rfl, rfl, fit_good hf hok, hl⟩
theorem get_of_put {K : List UInt8} {L : List Fd} {B : List UInt8} (hok : ∀ f ∈ L, f.ok) (h : putF K L = (B, 0)) : getF K B = (L, 0) := by
  obtain ⟨hk, hf, hg, hl⟩ := put_good hok h
  exact get_some hk (by omega) (takeAll_whole K L B (kinds_letters hk) hg)
theorem get_cases (K B : List UInt8) : (∃ L, getF K B = (L, 0) ∧ putF K L = (B, 0) ∧ ∀ f ∈ L, f.ok) ∨ (∃ q, getF K B = ([], q) ∧ (q == 0) = false) := by
  cases hk : kindsB K with
  | false => exact .inr ⟨2, get_kinds hk, rfl⟩
  | true =>
    rcases Nat.lt_or_ge 1024 B.length with hl | hl
    · exact .inr ⟨3, get_long hk hl, rfl⟩
    · cases ht : takeAll K B with
      | none => exact .inr ⟨5, get_none hk (by omega) ht, rfl⟩
      | some L =>
        have hg := takeAll_sound K B L (kinds_letters hk) ht
        refine .inl ⟨L, get_some hk (by omega) ht, ?_, hg.ok⟩
        rw [put_ok hk (good_fit hk hg) (by rw [hg.enc]; exact hl), hg.enc]
theorem enc_size (c : UInt8) (f : Fd) : f.s.size ≤ (enc c f).length ∨ fitsB c f = false ∨ f.s.size = 0 := by
  by_cases h0 : f.s.size = 0
  · exact .inr (.inr h0)
  · cases hf : fitsB c f with
    | false => exact .inr (.inl rfl)
    | true =>
      left
      unfold fitsB at hf
      by_cases h1 : c.toNat = 110
      · rw [if_pos h1] at hf
        simp only [Bool.and_eq_true, decide_eq_true_eq] at hf
        omega
      · by_cases h2 : c.toNat = 105
        · rw [if_neg h1, if_pos h2] at hf
          simp only [Bool.and_eq_true, decide_eq_true_eq] at hf
          omega
        · unfold enc
          rw [if_neg h1, if_neg h2, List.length_append]
          have key : ∀ l : List UInt8, l.length ≤ (escL l).length := by
            intro l
            induction l with
            | nil => simp
            | cons c t ih => rw [esc_cons]; split <;> simp <;> omega
          have := key f.s.data.toList
          simp at this
          omega
theorem good_size : ∀ (K : List UInt8) (L : List Fd) (B : List UInt8), Good K L B → ∀ f ∈ L, f.s.size ≤ B.length
  | _, [], _, _ => by simp
  | [], _ :: _, _, h => by have := h.len; simp at this
  | c :: K, g :: L, B, h => by
    obtain ⟨h1, h2, h3, rfl⟩ := good_tail h
    intro f hf
    rcases List.mem_cons.1 hf with rfl | hf
    · rw [List.length_append]
      rcases enc_size c f with e | e | e
      · omega
      · rw [h1] at e; cases e
      · omega
    · have := good_size K L _ h3 f hf
      rw [List.length_append]; omega
theorem get_fine {K B : List UInt8} {L : List Fd} (h : putF K L = (B, 0)) (hok : ∀ f ∈ L, f.ok) : Fine L ∧ L.length ≤ 16 := by
  obtain ⟨hk, hf, hg, hl⟩ := put_good hok h
  refine ⟨fun f hm => ⟨hok f hm, by have := good_size K L B hg f hm; omega⟩, ?_⟩
  have h1 := hg.len
  unfold kindsB at hk
  simp only [Bool.and_eq_true, decide_eq_true_eq] at hk
  omega
/-- Are fields more than a statement looks at? -/
def greatB (s : ByteArray) (L : List Fd) : Bool := (L.any fun f => decide (1200 < f.s.size)) || decide (40 < L.length) || decide (40 < s.size)
theorem great_at {s : ByteArray} {L : List Fd} {k : Nat} (hk : k < L.length) (h : 1200 < L[k].s.size) : greatB s L = true := by
  unfold greatB
  have : (L.any fun f => decide (1200 < f.s.size)) = true := List.any_eq_true.2 ⟨L[k], List.getElem_mem hk, decide_eq_true h⟩
  rw [this]; rfl
theorem great_end {s : ByteArray} {L : List Fd} (h : ∀ j (hj : j < L.length), ¬ 1200 < L[j].s.size) : greatB s L = (decide (40 < L.length) || decide (40 < s.size)) := by
  unfold greatB
  have : (L.any fun f => decide (1200 < f.s.size)) = false := by
    rw [← Bool.not_eq_true, List.any_eq_true]
    rintro ⟨f, hf, h2⟩
    obtain ⟨j, hj, rfl⟩ := List.getElem_of_mem hf
    exact h j hj (of_decide_eq_true h2)
  rw [this]; rfl
theorem not_great {s : ByteArray} {L : List Fd} (h : greatB s L = false) (hok : ∀ f ∈ L, f.ok) : Fine L ∧ L.length ≤ 40 ∧ s.size ≤ 40 := by
  unfold greatB at h
  simp only [Bool.or_eq_false_iff, decide_eq_false_iff_not] at h
  obtain ⟨⟨h1, h2⟩, h3⟩ := h
  refine ⟨fun f hf => ⟨hok f hf, ?_⟩, by omega, by omega⟩
  rcases Nat.lt_or_ge 1200 f.s.size with h4 | h4
  · have : (L.any fun f => decide (1200 < f.s.size)) = true := List.any_eq_true.2 ⟨f, hf, decide_eq_true h4⟩
    rw [h1] at this; cases this
  · omega
set_option maxRecDepth 100000 in
set_option maxHeartbeats 1600000 in
theorem great_c (s : ByteArray) (w : World) (a : Option Addr) (cap : Nat) (L : List Fd) (hL : Fds w a L) (hl : L.length ≤ 9223372036854775807) (hs : s.size ≤ 9223372036854775807) (hz : ∀ f ∈ L, f.s.size ≤ 9223372036854775807) :
    Calls Try.prog 8 #[.string s, .slice a L.length cap] w fun e w' => e = .returned (.bool (greatB s L)) ∧ Below w.heap.size w w' := by
  have HLS := Lib.hid hL
  have HZ := Lib.hid hz
  clear hL hz
  go_enter Try.func8, Try.ntmps8
  go_wp2_with fail
  go_loopw [5] (fun i wr => ∃ k : Nat, k ≤ L.length ∧ i = .int .i64 k ∧ (∀ j (hj : j < L.length), j < k → ¬ 1200 < L[j].s.size) ∧ Below w.heap.size w wr) (fun i _ => L.length - (intOf i).toNat)
  case atStart => exact ⟨0, by omega, rfl, fun j _ h => by omega, Below.refl _ _⟩
  case round =>
    obtain ⟨k, hk, rfl, hall, hB⟩ := hrel
    have HB := Lib.hid hB
    have HA := Lib.hid hall
    clear hB hall
    by_cases hlt : k < L.length
    · obtain ⟨g1, o1, rfl, hb1, c1, c2, c3⟩ := HLS.out.later HB.out k hlt
      have q0 : (0 : Int) ≤ (k : Int) := by omega
      have q1 : (k : Int) < (L.length : Int) := by omega
      have q8 := HZ.out L[k] (List.getElem_mem hlt)
      have HG := Lib.hid (great_at (s := s) hlt)
      have HN := Lib.hid (fun (h1 : ¬ 1200 < L[k].s.size) => show ∀ j (hj : j < L.length), j < k + 1 → ¬ 1200 < L[j].s.size from fun j hj h => by
        by_cases h' : j = k
        · subst h'; exact h1
        · exact HA.out j hj (by omega))
      obtain ⟨f, hf⟩ : ∃ f, L[k] = f := ⟨_, rfl⟩
      rw [hf] at c1 c2 c3 q8 HG HN
      clear hf
      by_cases hz : 1200 < f.s.size
      · have HR := Lib.hid (HG.out hz)
        have q3 : (1200 : Int) < (f.s.size : Int) := by omega
        clear hz
        go_wp2_with fail
        go_ret
        exact ⟨by rw [HR.out]; rfl, HB.out⟩
      · have HR := Lib.hid (HN.out hz)
        have q3 : ¬ (1200 : Int) < (f.s.size : Int) := by omega
        clear hz
        go_wp2_with fail
        exact ⟨⟨k + 1, by omega, by simp, HR.out, HB.out⟩, by simp [intOf]; omega⟩
    · have HR := Lib.hid (great_end (s := s) (L := L) (fun j hj => HA.out j hj (by omega)))
      have q1 : ¬ (k : Int) < (L.length : Int) := by omega
      by_cases h1 : 40 < L.length
      · have q3 : (40 : Int) < (L.length : Int) := by omega
        have HD := Lib.hid (decide_eq_true h1)
        clear h1
        go_wp2_with fail
        go_ret
        exact ⟨by rw [HR.out, HD.out]; rfl, HB.out⟩
      · have q3 : ¬ (40 : Int) < (L.length : Int) := by omega
        have HD := Lib.hid (decide_eq_false h1)
        by_cases h2 : 40 < s.size
        · have q4 : (40 : Int) < (s.size : Int) := by omega
          have HD2 := Lib.hid (decide_eq_true h2)
          clear h1 h2
          go_wp2_with fail
          go_ret
          exact ⟨by rw [HR.out, HD.out, HD2.out]; rfl, HB.out⟩
        · have q4 : ¬ (40 : Int) < (s.size : Int) := by omega
          have HD2 := Lib.hid (decide_eq_false h2)
          clear h1 h2
          go_wp2_with fail
          go_ret
          exact ⟨by rw [HR.out, HD.out, HD2.out]; rfl, HB.out⟩
/-- Does a text begin with another one? -/
def begB (t s : ByteArray) : Bool := s.data.toList.isPrefixOf t.data.toList
theorem begB_iff (t s : ByteArray) : begB t s = true ↔ s.data.toList <+: t.data.toList := List.isPrefixOf_iff_prefix
theorem beg_no {t s : ByteArray} (h : t.size < s.size) : begB t s = false := by
  rw [← Bool.not_eq_true, begB_iff]
  intro h2
  have := h2.length_le
  simp at this
  omega
theorem beg_yes {t s : ByteArray} : begB t s = ((t.extract 0 s.size).toList == s.toList) := by
  have e : (t.extract 0 s.size).toList = t.data.toList.take s.size := by rw [ByteArray.toList_eq, ext_take]
  rw [e, ByteArray.toList_eq]
  have hs : s.data.toList.length = s.size := by simp
  rw [Bool.eq_iff_iff, begB_iff, beq_iff_eq]
  constructor
  · intro h2
    rw [List.prefix_iff_eq_take, hs] at h2
    exact h2.symm
  · intro h2
    rw [List.prefix_iff_eq_take, hs]
    exact h2.symm
set_option maxRecDepth 100000 in
theorem begins_c (t s : ByteArray) (w : World) : Calls Try.prog 21 #[.string t, .string s] w fun e w' => e = .returned (.bool (begB t s)) ∧ w = w' := by
  by_cases h : t.size < s.size
  · have HR := Lib.hid (beg_no h)
    have q : ¬ (s.size : Int) ≤ (t.size : Int) := by omega
    go_enter Try.func21, Try.ntmps21
    go_wp2_with fail
    go_ret
    exact ⟨by rw [HR.out]; rfl, rfl⟩
  · have HR := Lib.hid (beg_yes (t := t) (s := s))
    have q : (s.size : Int) ≤ (t.size : Int) := by omega
    have q0 : (0 : Int) ≤ (s.size : Int) := by omega
    go_enter Try.func21, Try.ntmps21
    go_wp2_with fail
    go_ret
    exact ⟨by rw [HR.out]; simp, rfl⟩
end Go.Proofs.Ytoicnpekbpphjaa.Or
