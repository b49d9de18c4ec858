/- Package order: Compare; package quittanceref12: side, Compare. -/
import Derived.Test.YtoicnpekbpphjaaOrCmp0
import Derived.Test.YtoicnpekbpphjaaOrRow
import Derived.Test.YtoicnpekbpphjaaOrRBytes
import Derived.Deep.CutRange
import Derived.Deep.QuietTactic
import Derived.BigQuiet
import Derived.Sort.Walk0
import Derived.Deep.RegionWith
import Derived.Deep.Draws
import Derived.RegionTactic
import Derived.Laws.StructEq
namespace Go.Proofs.Ytoicnpekbpphjaa.Or
open Go.RowKit
theorem less_iff (s t : ByteArray) : Op.bytesLess s.toList t.toList = decide (s.data.toList < t.data.toList) := by
  rw [Proofs.bytesLess_eq, ByteArray.toList_eq, ByteArray.toList_eq]
theorem fd_cases {f g : Fd} (h : f ≠ g) :
    ((f.n == g.n) = false ∧ f.n < g.n ∧ LtF f g) ∨ ((f.n == g.n) = false ∧ ¬ f.n < g.n ∧ ¬ LtF f g) ∨
    ((f.n == g.n) = true ∧ ¬ f.n < g.n ∧ (f.i == g.i) = false ∧ f.i < g.i ∧ LtF f g) ∨ ((f.n == g.n) = true ∧ ¬ f.n < g.n ∧ (f.i == g.i) = false ∧ ¬ f.i < g.i ∧ ¬ LtF f g) ∨
    ((f.n == g.n) = true ∧ ¬ f.n < g.n ∧ (f.i == g.i) = true ∧ ¬ f.i < g.i ∧ (f.s.toList == g.s.toList) = false ∧ Op.bytesLess f.s.toList g.s.toList = true ∧ LtF f g) ∨
    ((f.n == g.n) = true ∧ ¬ f.n < g.n ∧ (f.i == g.i) = true ∧ ¬ f.i < g.i ∧ (f.s.toList == g.s.toList) = false ∧ Op.bytesLess f.s.toList g.s.toList = false ∧ ¬ LtF f g) := by
  rcases fd_ne h with ⟨b1, n1⟩ | ⟨b1, b2, n1, n2⟩ | ⟨b1, b2, b3, n1, n2, n3⟩
  · by_cases hlt : f.n < g.n
    · exact .inl ⟨b1, hlt, .inl hlt⟩
    · refine .inr (.inl ⟨b1, hlt, ?_⟩)
      rintro (h | ⟨h, _⟩ | ⟨h, _, _⟩) <;> omega
  · by_cases hlt : f.i < g.i
    · exact .inr (.inr (.inl ⟨b1, by omega, b2, hlt, .inr (.inl ⟨n1, hlt⟩)⟩))
    · refine .inr (.inr (.inr (.inl ⟨b1, by omega, b2, hlt, ?_⟩)))
      rintro (h | ⟨_, h⟩ | ⟨_, h, _⟩) <;> omega
  · by_cases hlt : f.s.data.toList < g.s.data.toList
    · exact .inr (.inr (.inr (.inr (.inl ⟨b1, by omega, b2, by omega, b3, by rw [less_iff, decide_eq_true hlt], .inr (.inr ⟨n1, n2, hlt⟩)⟩))))
    · refine .inr (.inr (.inr (.inr (.inr ⟨b1, by omega, b2, by omega, b3, by rw [less_iff, decide_eq_false hlt], ?_⟩))))
      rintro (h | ⟨_, h⟩ | ⟨_, _, h⟩)
      · omega
      · omega
      · exact hlt h
theorem two_fds (w : World) (f g : Fd) (t u : TypeId) : FdAt ((w.alloc (.cells #[.int .u64 f.n, .int .i64 f.i, .string f.s] t)).alloc (.cells #[.int .u64 g.n, .int .i64 g.i, .string g.s] u)).drew w.heap.size f ∧ FdAt ((w.alloc (.cells #[.int .u64 f.n, .int .i64 f.i, .string f.s] t)).alloc (.cells #[.int .u64 g.n, .int .i64 g.i, .string g.s] u)).drew (w.heap.size + 1) g := by
  refine ⟨(fd_new w f t).later (((Below.refl _ _).alloc (Nat.le_refl _) _).drew), ?_⟩
  have h := (fd_new (w.alloc (.cells #[.int .u64 f.n, .int .i64 f.i, .string f.s] t)) g u).later ((Below.refl _ _).drew)
  simpa using h
theorem side_c (b : Bool) (w : World) : Calls Try.prog 33 #[.bool b] w fun e w' => e = .returned (.int .i64 (if b then -1 else 1)) ∧ w = w' := by
  cases b
  all_goals go_enter Try.func33, Try.ntmps33
  all_goals go_wp2_with fail
  all_goals go_ret
  all_goals exact ⟨rfl, rfl⟩
theorem side_t (w : World) : Calls Try.prog 33 #[.bool true] w fun e w' => e = .returned (.int .i64 (-1)) ∧ w = w' := side_c true w
theorem side_f (w : World) : Calls Try.prog 33 #[.bool false] w fun e w' => e = .returned (.int .i64 1) ∧ w = w' := side_c false w
set_option maxRecDepth 100000 in
set_option maxHeartbeats 3200000 in
theorem compare_c (w : World) (a b : Option Addr) (ca cb : Nat) (L M : List Fd) (hL : Fds w a L) (hM : Fds w b M) (hl : L.length ≤ 1000000) (hm : M.length ≤ 1000000) :
    Calls Try.prog 19 #[.slice a L.length ca, .slice b M.length cb] w fun e w' => e = .returned (.int .i64 (cmpF L M)) ∧ Below w.heap.size w w' := by
  have HLS := Lib.hid hL
  have HMS := Lib.hid hM
  clear hL hM
  by_cases hle : L.length ≤ M.length
  · have q : (L.length : Int) ≤ (M.length : Int) := by omega
    go_enter Try.func19, Try.ntmps19
    go_wp2_with fail
    go_loopw [5, 6, 7, 13] (fun _ _ _ i wr => ∃ k : Nat, k ≤ L.length ∧ i = .int .i64 k ∧ L.take k = M.take k ∧ Below w.heap.size w wr) (fun _ _ _ i _ => L.length - (intOf i).toNat)
    case atStart => exact ⟨0, by omega, rfl, rfl, Below.refl _ _⟩
    case round =>
      obtain ⟨k, hk, rfl, htk, hB⟩ := hrel
      have HB := Lib.hid hB
      have HTK := Lib.hid htk
      clear hB htk
      by_cases hlt0 : k < L.length
      · have hlt : k < L.length := by omega
        have hlt2 : k < M.length := by omega
        have e1 := List.take_succ_eq_append_getElem hlt
        have e2 := List.take_succ_eq_append_getElem hlt2
        obtain ⟨g1, o1, rfl, hb1, c1, c2, c3⟩ := HLS.out.later HB.out k hlt
        obtain ⟨g2, o2, rfl, hb2, c4, c5, c6⟩ := HMS.out.later HB.out k hlt2
        have hne := cmp_at HTK.out hlt hlt2
        obtain ⟨s, hs⟩ : ∃ s, L[k] = s := ⟨_, rfl⟩
        obtain ⟨t, ht⟩ : ∃ t, M[k] = t := ⟨_, rfl⟩
        rw [hs] at c1 c2 c3 e1 hne
        rw [ht] at c4 c5 c6 e2 hne
        have E1 := Lib.hid e1
        have E2 := Lib.hid e2
        have HNE := Lib.hid hne
        have q0 : (0 : Int) ≤ (k : Int) := by omega
        have q1 : (k : Int) < (L.length : Int) := by omega
        have q2 : (k : Int) < (M.length : Int) := by omega
        clear hs ht e1 e2 hne
        go_upto_region 4 with (fail)
        go_cut [6, 7, 13] from 13 to 65 (fun s6 s7 s13 wx => ∃ x y, s6 = .pointer (some ⟨x, 0, none⟩) ∧ s7 = .pointer (some ⟨y, 0, none⟩) ∧ s13 = .int .i64 k ∧ FdAt wx x s ∧ FdAt wx y t ∧ Below w.heap.size w wx)
        case first =>
          go_region_with (fail)
          all_goals go_wp2_with fail
          all_goals go_meet
          all_goals first
            | exact ⟨_, _, rfl, rfl, rfl, (two_fds wr s t _ _).1, (two_fds wr s t _ _).2, ((HB.out.alloc HB.out.size _).alloc (by simp; have := HB.out.size; omega) _).drew⟩
            | exact ⟨_, _, rfl, rfl, rfl, (two_fds wr t s _ _).2, (two_fds wr t s _ _).1, ((HB.out.alloc HB.out.size _).alloc (by simp; have := HB.out.size; omega) _).drew⟩
        obtain ⟨x, y, rfl, rfl, rfl, ⟨x1, x2, x3, x4⟩, ⟨y1, y2, y3, y4⟩, hb⟩ := hcut
        have HC9 := Lib.hid hb
        clear c1 c2 c3 c4 c5 c6 hb1 hb2 hb
        by_cases hst : s = t
        · subst hst
          have z1 : (s.n == s.n) = true := by simp
          have z2 : (s.i == s.i) = true := by simp
          have z3 : (s.s.toList == s.s.toList) = true := by simp
          go_wp2_with fail
          exact ⟨⟨k + 1, by omega, by simp, by rw [E1.out, E2.out, HTK.out], HC9.out⟩, by simp [intOf]; omega⟩
        · have HV := Lib.hid (HNE.out hst)
          rcases fd_cases hst with ⟨b1, b2, hv⟩ | ⟨b1, b2, hv⟩ | ⟨b1, b2, b3, b4, hv⟩ | ⟨b1, b2, b3, b4, hv⟩ | ⟨b1, b2, b3, b4, b5, b6, hv⟩ | ⟨b1, b2, b3, b4, b5, b6, hv⟩
          · have HC := Lib.hid (show cmpF L M = -1 by rw [HV.out, if_pos hv])
            clear hst hv HV
            go_wp2_with fail
            go_ret
            exact ⟨by rw [HC.out]; rfl, HC9.out⟩
          · have HC := Lib.hid (show cmpF L M = 1 by rw [HV.out, if_neg hv])
            clear hst hv HV
            go_wp2_with fail
            go_ret
            exact ⟨by rw [HC.out]; rfl, HC9.out⟩
          · have HC := Lib.hid (show cmpF L M = -1 by rw [HV.out, if_pos hv])
            clear hst hv HV
            go_wp2_with fail
            go_ret
            exact ⟨by rw [HC.out]; rfl, HC9.out⟩
          · have HC := Lib.hid (show cmpF L M = 1 by rw [HV.out, if_neg hv])
            clear hst hv HV
            go_wp2_with fail
            go_ret
            exact ⟨by rw [HC.out]; rfl, HC9.out⟩
          · have HC := Lib.hid (show cmpF L M = -1 by rw [HV.out, if_pos hv])
            clear hst hv HV
            go_wp2_with fail
            go_ret
            exact ⟨by rw [HC.out]; rfl, HC9.out⟩
          · have HC := Lib.hid (show cmpF L M = 1 by rw [HV.out, if_neg hv])
            clear hst hv HV
            go_wp2_with fail
            go_ret
            exact ⟨by rw [HC.out]; rfl, HC9.out⟩
      · obtain rfl : k = L.length := by omega
        have HE := cmp_end HTK.out (Nat.le_refl _) hle (.inl rfl)
        have q1 : ¬ (L.length : Int) < (L.length : Int) := by omega
        by_cases he : L.length = M.length
        · rw [if_pos he] at HE
          have q3 : ¬ (L.length : Int) < (M.length : Int) := by omega
          have q4 : ¬ (M.length : Int) < (L.length : Int) := by omega
          have HC := Lib.hid HE
          clear he HE
          go_wp2_with fail
          go_ret
          exact ⟨by rw [HC.out]; rfl, HB.out⟩
        · rw [if_neg he, if_pos (by omega)] at HE
          have q3 : (L.length : Int) < (M.length : Int) := by omega
          have HC := Lib.hid HE
          clear he HE
          go_wp2_with fail
          go_ret
          exact ⟨by rw [HC.out]; rfl, HB.out⟩
  · have q : ¬ (L.length : Int) ≤ (M.length : Int) := by omega
    go_enter Try.func19, Try.ntmps19
    go_wp2_with fail
    go_loopw [5, 6, 7, 13] (fun _ _ _ i wr => ∃ k : Nat, k ≤ M.length ∧ i = .int .i64 k ∧ L.take k = M.take k ∧ Below w.heap.size w wr) (fun _ _ _ i _ => M.length - (intOf i).toNat)
    case atStart => exact ⟨0, by omega, rfl, rfl, Below.refl _ _⟩
    case round =>
      obtain ⟨k, hk, rfl, htk, hB⟩ := hrel
      have HB := Lib.hid hB
      have HTK := Lib.hid htk
      clear hB htk
      by_cases hlt0 : k < M.length
      · have hlt : k < L.length := by omega
        have hlt2 : k < M.length := by omega
        have e1 := List.take_succ_eq_append_getElem hlt
        have e2 := List.take_succ_eq_append_getElem hlt2
        obtain ⟨g1, o1, rfl, hb1, c1, c2, c3⟩ := HLS.out.later HB.out k hlt
        obtain ⟨g2, o2, rfl, hb2, c4, c5, c6⟩ := HMS.out.later HB.out k hlt2
        have hne := cmp_at HTK.out hlt hlt2
        obtain ⟨s, hs⟩ : ∃ s, L[k] = s := ⟨_, rfl⟩
        obtain ⟨t, ht⟩ : ∃ t, M[k] = t := ⟨_, rfl⟩
        rw [hs] at c1 c2 c3 e1 hne
        rw [ht] at c4 c5 c6 e2 hne
        have E1 := Lib.hid e1
        have E2 := Lib.hid e2
        have HNE := Lib.hid hne
        have q0 : (0 : Int) ≤ (k : Int) := by omega
        have q1 : (k : Int) < (L.length : Int) := by omega
        have q2 : (k : Int) < (M.length : Int) := by omega
        clear hs ht e1 e2 hne
        go_upto_region 4 with (fail)
        go_cut [6, 7, 13] from 13 to 65 (fun s6 s7 s13 wx => ∃ x y, s6 = .pointer (some ⟨x, 0, none⟩) ∧ s7 = .pointer (some ⟨y, 0, none⟩) ∧ s13 = .int .i64 k ∧ FdAt wx x s ∧ FdAt wx y t ∧ Below w.heap.size w wx)
        case first =>
          go_region_with (fail)
          all_goals go_wp2_with fail
          all_goals go_meet
          all_goals first
            | exact ⟨_, _, rfl, rfl, rfl, (two_fds wr s t _ _).1, (two_fds wr s t _ _).2, ((HB.out.alloc HB.out.size _).alloc (by simp; have := HB.out.size; omega) _).drew⟩
            | exact ⟨_, _, rfl, rfl, rfl, (two_fds wr t s _ _).2, (two_fds wr t s _ _).1, ((HB.out.alloc HB.out.size _).alloc (by simp; have := HB.out.size; omega) _).drew⟩
        obtain ⟨x, y, rfl, rfl, rfl, ⟨x1, x2, x3, x4⟩, ⟨y1, y2, y3, y4⟩, hb⟩ := hcut
        have HC9 := Lib.hid hb
        clear c1 c2 c3 c4 c5 c6 hb1 hb2 hb
        by_cases hst : s = t
        · subst hst
          have z1 : (s.n == s.n) = true := by simp
          have z2 : (s.i == s.i) = true := by simp
          have z3 : (s.s.toList == s.s.toList) = true := by simp
          go_wp2_with fail
          exact ⟨⟨k + 1, by omega, by simp, by rw [E1.out, E2.out, HTK.out], HC9.out⟩, by simp [intOf]; omega⟩
        · have HV := Lib.hid (HNE.out hst)
          rcases fd_cases hst with ⟨b1, b2, hv⟩ | ⟨b1, b2, hv⟩ | ⟨b1, b2, b3, b4, hv⟩ | ⟨b1, b2, b3, b4, hv⟩ | ⟨b1, b2, b3, b4, b5, b6, hv⟩ | ⟨b1, b2, b3, b4, b5, b6, hv⟩
          · have HC := Lib.hid (show cmpF L M = -1 by rw [HV.out, if_pos hv])
            clear hst hv HV
            go_wp2_with fail
            go_ret
            exact ⟨by rw [HC.out]; rfl, HC9.out⟩
          · have HC := Lib.hid (show cmpF L M = 1 by rw [HV.out, if_neg hv])
            clear hst hv HV
            go_wp2_with fail
            go_ret
            exact ⟨by rw [HC.out]; rfl, HC9.out⟩
          · have HC := Lib.hid (show cmpF L M = -1 by rw [HV.out, if_pos hv])
            clear hst hv HV
            go_wp2_with fail
            go_ret
            exact ⟨by rw [HC.out]; rfl, HC9.out⟩
          · have HC := Lib.hid (show cmpF L M = 1 by rw [HV.out, if_neg hv])
            clear hst hv HV
            go_wp2_with fail
            go_ret
            exact ⟨by rw [HC.out]; rfl, HC9.out⟩
          · have HC := Lib.hid (show cmpF L M = -1 by rw [HV.out, if_pos hv])
            clear hst hv HV
            go_wp2_with fail
            go_ret
            exact ⟨by rw [HC.out]; rfl, HC9.out⟩
          · have HC := Lib.hid (show cmpF L M = 1 by rw [HV.out, if_neg hv])
            clear hst hv HV
            go_wp2_with fail
            go_ret
            exact ⟨by rw [HC.out]; rfl, HC9.out⟩
      · obtain rfl : k = M.length := by omega
        have HE := cmp_end HTK.out (by omega) (Nat.le_refl _) (.inr rfl)
        have q1 : ¬ (M.length : Int) < (M.length : Int) := by omega
        rw [if_neg (by omega), if_neg (by omega)] at HE
        have q3 : ¬ (L.length : Int) < (M.length : Int) := by omega
        have q4 : (M.length : Int) < (L.length : Int) := by omega
        have HC := Lib.hid HE
        clear HE
        go_wp2_with fail
        go_ret
        exact ⟨by rw [HC.out]; rfl, HB.out⟩
end Go.Proofs.Ytoicnpekbpphjaa.Or
