/- Package codec: Get; package quittanceref15: Get. -/
import Derived.Test.YtialjglgkfcdmaaCoTake
namespace Go.Proofs.Ytialjglgkfcdmaa.Or
open Go.RowKit
/-- How far a reading has come. -/
structure Inv (K B : List UInt8) (LL : List Fd) (R : List UInt8) : Prop where
  take : takeR K B = (takeR (K.drop LL.length) R).map fun L => LL ++ L
  enc : recAll K LL ++ R = B
  ok : ∀ f ∈ LL, f.ok ∧ f.s.size ≤ B.length
theorem recAll_snoc : ∀ (K : List UInt8) (LL : List Fd) (f : Fd) (h : LL.length < K.length), recAll K (LL ++ [f]) = recAll K LL ++ cb K[LL.length] f
  | _ :: _, [], _, _ => by simp [recAll, recAll_nil]
  | _ :: K, g :: LL, f, h => by
    simp only [List.cons_append, recAll, List.length_cons, List.getElem_cons_succ]
    rw [recAll_snoc K LL f (by simpa using h), List.append_assoc]
theorem inv_zero (K B : List UInt8) : Inv K B [] B := ⟨by simp, by rw [recAll_nil]; rfl, by simp⟩
theorem inv_next {K B : List UInt8} {LL : List Fd} {R r : List UInt8} {f : Fd} {c : UInt8} (h : Inv K B LL R) (hk : LL.length < K.length) (hc : K[LL.length] = c) (hl : Letter c) (ht : takeC c R = some (f, r)) : Inv K B (LL ++ [f]) r := by
  obtain ⟨h1, h2, h3⟩ := h
  obtain ⟨s1, s2, s3, s4, s5⟩ := takeC_sound hl ht
  have hlen := congrArg List.length h2
  rw [List.length_append] at hlen
  refine ⟨?_, ?_, ?_⟩
  · rw [h1, List.drop_eq_getElem_cons hk, hc, takeR, ht]
    simp only [Option.map_map, List.length_append, List.length_cons, List.length_nil]
    congr 1
    funext L
    simp
  · rw [recAll_snoc K LL f hk, hc, List.append_assoc, ← s1, h2]
  · intro g hg
    rcases List.mem_append.1 hg with h | h
    · exact h3 g h
    · rw [List.mem_singleton] at h; subst h; exact ⟨s3, by omega⟩
theorem inv_fail {K B : List UInt8} {LL : List Fd} {R : List UInt8} {c : UInt8} (h : Inv K B LL R) (hk : LL.length < K.length) (hc : K[LL.length] = c) (ht : takeC c R = none) : takeR K B = none := by
  rw [h.take, List.drop_eq_getElem_cons hk, hc, takeR, ht]; rfl
theorem inv_end {K B : List UInt8} {LL : List Fd} {R : List UInt8} (h : Inv K B LL R) (hk : LL.length = K.length) : (R = [] → takeR K B = some LL) ∧ (R ≠ [] → takeR K B = none) := by
  have e : K.drop LL.length = [] := List.drop_of_length_le (by omega)
  constructor
  · intro hR; rw [h.take, e, hR]; simp [takeR]
  · intro hR
    rw [h.take, e]
    cases R with
    | nil => exact absurd rfl hR
    | cons => rfl
theorem inv_len {K B : List UInt8} {LL : List Fd} {R : List UInt8} (h : Inv K B LL R) : R.length ≤ B.length := by
  have := congrArg List.length h.enc
  rw [List.length_append] at this
  omega
def CGetRes (K B : List UInt8) (w : World) (e : Ending) (w' : World) : Prop :=
  ∃ a cap, e = .returned (.tuple #[.slice a (cget K B).1.length cap, .int .i64 (cget K B).2]) ∧ Fds w' a (cget K B).1 ∧ Below w.heap.size w w'
theorem cnil_res {K B : List UInt8} {q : Int} {w w' : World} (h : cget K B = ([], q)) (hb : Below w.heap.size w w') : CGetRes K B w (.returned (.tuple #[.slice none 0 0, .int .i64 q])) w' := by
  refine ⟨none, 0, by rw [h]; rfl, fun j hj => ?_, hb⟩
  rw [h] at hj; simp at hj
theorem csome_res {K B : List UInt8} {LL : List Fd} {a : Option Addr} {n cap : Nat} {w w' : World} (h : cget K B = (LL, 0)) (hn : n = LL.length) (hf : Fds w' a LL) (hb : Below w.heap.size w w') : CGetRes K B w (.returned (.tuple #[.slice a n cap, .int .i64 0])) w' := by
  subst hn
  exact ⟨a, cap, by rw [h], by rw [h]; exact hf, hb⟩
theorem cget_end {K B : List UInt8} {LL : List Fd} {R : List UInt8} (hk : kindsB K = true) (hl : ¬ 8192 < B.length) (h : Inv K B LL R) (hn : LL.length = K.length) :
    (R = [] ∧ cput K LL = (B, 0) ∧ cget K B = (LL, 0)) ∨ (((cput K LL).2 ≠ 0 ∨ ((cput K LL).2 = 0 ∧ (cput K LL).1 ≠ B)) ∧ cget K B = ([], 5)) := by
  by_cases hR : R = []
  · left
    have ht := (inv_end h hn).1 hR
    have hg := takeR_sound K B LL (kinds_letters hk) (by omega) ht
    refine ⟨hR, ?_, cget_some hk hl ht⟩
    rw [cput_ok hk hg.len (fitB_good hk hg) (by rw [hg.enc]; omega), hg.enc]
  · right
    refine ⟨?_, cget_none hk hl ((inv_end h hn).2 hR)⟩
    by_cases hz : (cput K LL).2 = 0
    · right
      refine ⟨hz, fun he => hR ?_⟩
      have hp : cput K LL = (B, 0) := Prod.ext he hz
      have hg := (cput_good (fun f hf => ⟨(h.ok f hf).1, by have := (h.ok f hf).2; omega⟩) hp).2.1
      have h2 := h.enc
      rw [hg.enc] at h2
      exact List.append_right_eq_self.1 h2
    · exact .inl hz
theorem isNil_iff (R : ByteArray) : (R.toList.isEmpty = true ∧ R.data.toList = []) ∨ (R.toList.isEmpty = false ∧ R.data.toList ≠ []) := by
  rw [ByteArray.toList_eq]
  cases R.data.toList with
  | nil => exact .inl ⟨rfl, rfl⟩
  | cons => exact .inr ⟨rfl, by simp⟩
set_option maxRecDepth 100000 in
set_option maxHeartbeats 6400000 in
theorem codget_c (K F : ByteArray) (w : World) (hK : K.size ≤ 1000) (hF : F.size ≤ 100000) : Calls Try.prog 13 #[.string K, .string F] w (CGetRes K.data.toList F.data.toList w) := by
  have KK := Lib.hid (fun w => kinds_c K w (by omega))
  have HFS := Lib.hid (show F.data.toList.length = F.size by simp)
  have HKL := Lib.hid (show K.data.toList.length = K.size by simp)
  cases hk : kindsB K.data.toList with
  | false =>
    have HR := Lib.hid (cget_kinds (B := F.data.toList) hk)
    rw [hk] at KK
    clear hk
    go_enter Try.func13, Try.ntmps13
    go_wp2_with fail
    refine (KK.out _).mono ?_
    rintro e w1 ⟨rfl, rfl⟩
    go_wp2_with fail
    go_ret2
    exact cnil_res HR.out (Below.refl _ _)
  | true =>
  rw [hk] at KK
  have HK := Lib.hid hk
  by_cases hl : 8192 < F.size
  case pos =>
    have HR := Lib.hid (cget_long hk (by rw [HFS.out]; exact hl))
    have q1 : (8192 : Int) < (F.size : Int) := by omega
    clear hk hl
    go_enter Try.func13, Try.ntmps13
    go_wp2_with fail
    refine (KK.out _).mono ?_
    rintro e w1 ⟨rfl, rfl⟩
    go_wp2_with fail
    go_ret2
    exact cnil_res HR.out (Below.refl _ _)
  have q1 : ¬ (8192 : Int) < (F.size : Int) := by omega
  have HL := Lib.hid (show ¬ 8192 < F.data.toList.length by rw [HFS.out]; exact hl)
  clear hk
  go_enter Try.func13, Try.ntmps13
  go_wp2_with fail
  refine (KK.out _).mono ?_
  rintro e w1 ⟨rfl, rfl⟩
  go_wp2_with fail
  go_loopw [1, 6, 7, 8, 9, 18] (fun s1 s6 _ _ _ s18 wr => ∃ (LL : List Fd) (R : ByteArray), s1 = .string R ∧ s18 = .int .i64 (LL.length : Int) ∧ LL.length ≤ K.size ∧ OwnF w.heap.size wr s6 LL ∧ Inv K.data.toList F.data.toList LL R.data.toList ∧ Below w.heap.size w wr) (fun _ _ _ _ _ s18 _ => K.size - (intOf s18).toNat)
  case atStart => exact ⟨[], F, rfl, rfl, by simp, OwnF.nil _ _, inv_zero _ _, Below.refl _ _⟩
  case round =>
    obtain ⟨LL, R, rfl, rfl, hlen, hO, hinv, hB⟩ := hrel
    have HO := Lib.hid hO
    have HI := Lib.hid hinv
    have HB := Lib.hid hB
    have hR9 : R.size ≤ 8192 := by
      have := inv_len hinv
      rw [HFS.out] at this
      simp at this
      omega
    have hbr : w.heap.size ≤ wr.heap.size := hB.size
    clear hO hinv hB
    by_cases hlt : LL.length < K.size
    · have p0 : (0 : Int) ≤ (LL.length : Int) := by omega
      have p1 : (LL.length : Int) < (K.size : Int) := by omega
      have hks : LL.length < K.data.toList.length := by rw [HKL.out]; exact hlt
      have hcs := kinds_at HK.out _ hks
      have HNX := Lib.hid (fun c hc f r hl ht => inv_next (f := f) (r := r) (c := c) HI.out hks hc hl ht)
      have HFAIL := Lib.hid (fun c hc ht => inv_fail (c := c) HI.out hks hc ht)
      rw [byte_at K _ hlt] at hcs HNX HFAIL
      obtain ⟨c, hc⟩ : ∃ c, K[LL.length] = c := ⟨_, rfl⟩
      have hcc : K[LL.length] = c := hc
      rw [hc] at hcs HNX HFAIL
      have HLET := Lib.hid hcs
      clear hc
      rcases hcs with hcs | hcs | hcs
      · have HCS := Lib.hid hcs
        clear hcs
        go_wp2_with fail
        have K1 := Lib.hid (fun G w => reader1_c c G w HCS.out)
        refine (K1.out _ _).mono ?_
        rintro e w2 ⟨rfl, hw2⟩
        have hrb : Rb (wr.heap.size + 1) wr.heap.size w2 := by
          rw [hw2]
          refine ⟨by rw [World.cell?_alloc_at _ _ _ _ (by simp)]; rfl, by simp, by omega, (fd_new wr ⟨0, 0, ⟨#[]⟩⟩ _).later ((Below.refl _ _).alloc (Nat.le_refl _) _), ?_, ?_, ?_⟩
          all_goals simp [go_sem]
        have hb2 : Below wr.heap.size wr w2 := by rw [hw2]; exact ((Below.refl _ wr).alloc (Nat.le_refl _) _).alloc (by simp) _
        have e2 : (wr.alloc (.cells #[.int .u64 0, .int .i64 0, .string ⟨#[]⟩] 59)).heap.size = wr.heap.size + 1 := by simp
        rw [e2]
        have K2 := Lib.hid (rd1_c R (wr.heap.size + 1) wr.heap.size c HCS.out w2 (by omega) hrb)
        have HB2 := Lib.hid hb2
        clear hrb hb2 hw2 e2 K1
        go_wp2_with fail
        refine K2.out.mono ?_
        rintro e w3 ⟨b3, hno, hyes⟩
        have hB3 := HB.out.trans (HB2.out.mono hbr) |>.trans (b3.mono hbr)
        have HB3 := Lib.hid hB3
        have HO3 := Lib.hid (show OwnF w.heap.size w3 u6 LL from OwnF.later HO.out (HB2.out.trans b3))
        have hw3 : w.heap.size ≤ w3.heap.size := hB3.size
        clear b3 hB3
        cases ht : takeC c R.data.toList with
        | none =>
          obtain rfl := hno ht
          have HR := Lib.hid (cget_none HK.out HL.out (HFAIL.out c rfl ht))
          clear hno hyes ht
          go_wp2_with fail
          go_ret2
          exact cnil_res HR.out HB3.out
        | some x =>
          obtain ⟨f, r⟩ := x
          obtain ⟨rfl, hfd⟩ := hyes f r ht
          have HN := Lib.hid (HNX.out c rfl f r HLET.out ht)
          have HFD := Lib.hid hfd
          obtain ⟨f0, f1, f2, f3⟩ := hfd
          have HO4 := Lib.hid (OwnF.later HO3.out ((Below.refl _ w3).alloc (Nat.le_refl _) (.cells #[.int .u64 f.n, .int .i64 f.i, .string f.s] 59)))
          have HF4 := Lib.hid (fd_new w3 f 59)
          clear hno hyes ht
          go_wp2_with (at_builtin; refine app_fds rfl _ _ rfl w.heap.size _ LL f rfl w3.heap.size 1 rfl HO4.out HF4.out (by omega) (by simp; omega) ?_)
          intro v8 w8 h8 b8
          have H8 := Lib.hid h8
          have B8 := Lib.hid (below_under (HB3.out.alloc hw3 _) b8)
          clear h8 b8
          go_wp2_with fail
          exact ⟨⟨LL ++ [f], ⟨r.toArray⟩, rfl, by simp, by simp; omega, H8.out, HN.out, B8.out⟩, by simp [intOf]; omega⟩
      · have HCS := Lib.hid hcs
        clear hcs
        go_wp2_with fail
        have K1 := Lib.hid (fun G w => reader2_c c G w HCS.out)
        refine (K1.out _ _).mono ?_
        rintro e w2 ⟨rfl, hw2⟩
        have hrb : Rb (wr.heap.size + 1) wr.heap.size w2 := by
          rw [hw2]
          refine ⟨by rw [World.cell?_alloc_at _ _ _ _ (by simp)]; rfl, by simp, by omega, (fd_new wr ⟨0, 0, ⟨#[]⟩⟩ _).later ((Below.refl _ _).alloc (Nat.le_refl _) _), ?_, ?_, ?_⟩
          all_goals simp [go_sem]
        have hb2 : Below wr.heap.size wr w2 := by rw [hw2]; exact ((Below.refl _ wr).alloc (Nat.le_refl _) _).alloc (by simp) _
        have e2 : (wr.alloc (.cells #[.int .u64 0, .int .i64 0, .string ⟨#[]⟩] 59)).heap.size = wr.heap.size + 1 := by simp
        rw [e2]
        have K2 := Lib.hid (rd2_c R (wr.heap.size + 1) wr.heap.size c HCS.out w2 (by omega) hrb)
        have HB2 := Lib.hid hb2
        clear hrb hb2 hw2 e2 K1
        go_wp2_with fail
        refine K2.out.mono ?_
        rintro e w3 ⟨b3, hno, hyes⟩
        have hB3 := HB.out.trans (HB2.out.mono hbr) |>.trans (b3.mono hbr)
        have HB3 := Lib.hid hB3
        have HO3 := Lib.hid (show OwnF w.heap.size w3 u6 LL from OwnF.later HO.out (HB2.out.trans b3))
        have hw3 : w.heap.size ≤ w3.heap.size := hB3.size
        clear b3 hB3
        cases ht : takeC c R.data.toList with
        | none =>
          obtain rfl := hno ht
          have HR := Lib.hid (cget_none HK.out HL.out (HFAIL.out c rfl ht))
          clear hno hyes ht
          go_wp2_with fail
          go_ret2
          exact cnil_res HR.out HB3.out
        | some x =>
          obtain ⟨f, r⟩ := x
          obtain ⟨rfl, hfd⟩ := hyes f r ht
          have HN := Lib.hid (HNX.out c rfl f r HLET.out ht)
          have HFD := Lib.hid hfd
          obtain ⟨f0, f1, f2, f3⟩ := hfd
          have HO4 := Lib.hid (OwnF.later HO3.out ((Below.refl _ w3).alloc (Nat.le_refl _) (.cells #[.int .u64 f.n, .int .i64 f.i, .string f.s] 59)))
          have HF4 := Lib.hid (fd_new w3 f 59)
          clear hno hyes ht
          go_wp2_with (at_builtin; refine app_fds rfl _ _ rfl w.heap.size _ LL f rfl w3.heap.size 1 rfl HO4.out HF4.out (by omega) (by simp; omega) ?_)
          intro v8 w8 h8 b8
          have H8 := Lib.hid h8
          have B8 := Lib.hid (below_under (HB3.out.alloc hw3 _) b8)
          clear h8 b8
          go_wp2_with fail
          exact ⟨⟨LL ++ [f], ⟨r.toArray⟩, rfl, by simp, by simp; omega, H8.out, HN.out, B8.out⟩, by simp [intOf]; omega⟩
      · have HCS := Lib.hid hcs
        clear hcs
        go_wp2_with fail
        have K1 := Lib.hid (fun G w => reader3_c c G w HCS.out)
        refine (K1.out _ _).mono ?_
        rintro e w2 ⟨rfl, hw2⟩
        have hrb : Rb (wr.heap.size + 1) wr.heap.size w2 := by
          rw [hw2]
          refine ⟨by rw [World.cell?_alloc_at _ _ _ _ (by simp)]; rfl, by simp, by omega, (fd_new wr ⟨0, 0, ⟨#[]⟩⟩ _).later ((Below.refl _ _).alloc (Nat.le_refl _) _), ?_, ?_, ?_⟩
          all_goals simp [go_sem]
        have hb2 : Below wr.heap.size wr w2 := by rw [hw2]; exact ((Below.refl _ wr).alloc (Nat.le_refl _) _).alloc (by simp) _
        have e2 : (wr.alloc (.cells #[.int .u64 0, .int .i64 0, .string ⟨#[]⟩] 59)).heap.size = wr.heap.size + 1 := by simp
        rw [e2]
        have K2 := Lib.hid (rd3_c R (wr.heap.size + 1) wr.heap.size c HCS.out w2 (by omega) hrb)
        have HB2 := Lib.hid hb2
        clear hrb hb2 hw2 e2 K1
        go_wp2_with fail
        refine K2.out.mono ?_
        rintro e w3 ⟨b3, hno, hyes⟩
        have hB3 := HB.out.trans (HB2.out.mono hbr) |>.trans (b3.mono hbr)
        have HB3 := Lib.hid hB3
        have HO3 := Lib.hid (show OwnF w.heap.size w3 u6 LL from OwnF.later HO.out (HB2.out.trans b3))
        have hw3 : w.heap.size ≤ w3.heap.size := hB3.size
        clear b3 hB3
        cases ht : takeC c R.data.toList with
        | none =>
          obtain rfl := hno ht
          have HR := Lib.hid (cget_none HK.out HL.out (HFAIL.out c rfl ht))
          clear hno hyes ht
          go_wp2_with fail
          go_ret2
          exact cnil_res HR.out HB3.out
        | some x =>
          obtain ⟨f, r⟩ := x
          obtain ⟨rfl, hfd⟩ := hyes f r ht
          have HN := Lib.hid (HNX.out c rfl f r HLET.out ht)
          have HFD := Lib.hid hfd
          obtain ⟨f0, f1, f2, f3⟩ := hfd
          have HO4 := Lib.hid (OwnF.later HO3.out ((Below.refl _ w3).alloc (Nat.le_refl _) (.cells #[.int .u64 f.n, .int .i64 f.i, .string f.s] 59)))
          have HF4 := Lib.hid (fd_new w3 f 59)
          clear hno hyes ht
          go_wp2_with (at_builtin; refine app_fds rfl _ _ rfl w.heap.size _ LL f rfl w3.heap.size 1 rfl HO4.out HF4.out (by omega) (by simp; omega) ?_)
          intro v8 w8 h8 b8
          have H8 := Lib.hid h8
          have B8 := Lib.hid (below_under (HB3.out.alloc hw3 _) b8)
          clear h8 b8
          go_wp2_with fail
          exact ⟨⟨LL ++ [f], ⟨r.toArray⟩, rfl, by simp, by simp; omega, H8.out, HN.out, B8.out⟩, by simp [intOf]; omega⟩
    · have q3 : ¬ (LL.length : Int) < (K.size : Int) := by omega
      have hEND := inv_end HI.out (by rw [HKL.out]; omega)
      obtain ⟨a, cap, rfl, hfds⟩ := own_fds HO.out
      rcases isNil_iff R with ⟨z1, z2⟩ | ⟨z1, z2⟩
      · have HR := Lib.hid (cget_some HK.out HL.out (hEND.1 z2))
        have H9 := Lib.hid hfds
        clear hEND z2 hfds HO
        go_wp2_with fail
        go_ret2
        exact csome_res HR.out rfl H9.out HB.out
      · have HR := Lib.hid (cget_none HK.out HL.out (hEND.2 z2))
        clear hEND z2 hfds HO
        go_wp2_with fail
        go_ret2
        exact cnil_res HR.out HB.out
end Go.Proofs.Ytialjglgkfcdmaa.Or
