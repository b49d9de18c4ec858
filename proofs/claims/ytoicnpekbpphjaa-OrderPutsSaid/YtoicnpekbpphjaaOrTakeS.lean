/- Package order: takeString. -/
import Derived.Test.YtoicnpekbpphjaaOrTakeI
namespace Go.Proofs.Ytoicnpekbpphjaa.Or
open Go.RowKit Cm
def outS : Option (List UInt8 × List UInt8) → Value
  | none => .tuple #[.string ⟨#[]⟩, .string ⟨#[]⟩, .bool false]
  | some (l, r) => .tuple #[.string ⟨l.toArray⟩, .string ⟨r.toArray⟩, .bool true]
theorem OwnB.str_but {w : World} {base g n cap : Nat} {l : List UInt8} {c : UInt8} (h : OwnB base w (.slice (some ⟨g, 0, none⟩) n cap) (l ++ [c])) (m k : Nat) (hm : m = l.length) :
    (convert 48 9 (.slice (some ⟨g, 0, none⟩) m k)).run Try.prog w = .ok (.string ⟨l.toArray⟩) w := by
  subst hm
  refine run_convert_bytes_back w _ _ _ ⟨g, 0, none⟩ k l und_bytes und_u8 und_str ?_
  intro j hj
  have := h.cell j (by simp; omega)
  rw [List.getElem_append_left hj] at this
  rw [Go.WideShapes.add_plain, Nat.zero_add]
  exact this
theorem OwnB.drewN {w : World} {base : Nat} {v : Value} {l : List UInt8} (h : OwnB base w v l) (m : Nat) : OwnB base (w.drewN m) v l := h
theorem OwnB.cap {w : World} {base g n cap : Nat} {l : List UInt8} (h : OwnB base w (.slice (some ⟨g, 0, none⟩) n cap) l) : l.length ≤ cap := by
  rcases h.2 with ⟨h', _⟩ | ⟨g', cap', cur, h', _, _, hc, _⟩
  · simp at h'
  · simp only [Value.slice.injEq] at h'
    omega
theorem takeS_drop {L : List UInt8} {k : Nat} (h : L.length ≤ k + 1) : takeS (L.drop k) = none := by
  have hl : (L.drop k).length ≤ 1 := by rw [List.length_drop]; omega
  cases hd : L.drop k with
  | nil => rfl
  | cons c t =>
    rw [hd] at hl
    cases t with
    | nil => rfl
    | cons => simp at hl
def preS (l : List UInt8) (o : Option (List UInt8 × List UInt8)) : Option (List UInt8 × List UInt8) := o.map fun x => (l ++ x.1, x.2)
theorem preS_none (l : List UInt8) : preS l none = none := rfl
theorem preS_map (l : List UInt8) (c : UInt8) (o : Option (List UInt8 × List UInt8)) : preS l (o.map fun x => (c :: x.1, x.2)) = preS (l ++ [c]) o := by
  cases o <;> simp [preS]
set_option maxRecDepth 100000 in
set_option maxHeartbeats 3200000 in
theorem takeString_c (F : ByteArray) (w : World) (hF9 : F.size ≤ 100000) : Calls Try.prog 41 #[.string F] w fun e w' => e = .returned (outS (takeS F.data.toList)) ∧ Below w.heap.size w w' := by
  obtain ⟨L, hL⟩ : ∃ L, F.data.toList = L := ⟨_, rfl⟩
  have hLs : L.length = F.size := by rw [← hL]; simp
  have hat : ∀ j (h : j < F.size) (h' : j < L.length), F[j] = L[j] := fun j h h' => by subst hL; exact (byte_at F j h).symm
  have HAT := Lib.hid hat
  have HLS := Lib.hid hLs
  have HF := Lib.hid hL
  rw [hL]
  clear hL hLs hat
  go_enter Try.func41, Try.ntmps41
  go_wp2_with fail
  go_loopw [5, 6] (fun v i wr => ∃ (k : Nat) (l : List UInt8), k ≤ F.size ∧ i = .int .i64 (k : Int) ∧ takeS L = preS l (takeS (L.drop k)) ∧ l.length ≤ k ∧ OwnB w.heap.size wr v l ∧ Below w.heap.size w wr) (fun _ i _ => F.size - (intOf i).toNat)
  case atStart => exact ⟨0, [], by omega, rfl, by cases h : takeS (L.drop 0) <;> simp_all [preS], by simp, OwnB.nil _ _, Below.refl _ _⟩
  case round =>
    obtain ⟨k, l, hk, rfl, hT, hlk, hO, hB⟩ := hrel
    have HT := Lib.hid hT
    have HO := Lib.hid hO
    have HB := Lib.hid hB
    have hbr : w.heap.size ≤ wr.heap.size := hB.size
    clear hT hO hB
    by_cases hlt : k + 1 < F.size
    · have p0 : (0 : Int) ≤ (k : Int) := by omega
      have p1 : (k : Int) + 1 < (F.size : Int) := by omega
      have p2 : (k : Int) < (F.size : Int) := by omega
      have hk1 : k < F.size := by omega
      have hd1 : L.drop k = F[k] :: L.drop (k + 1) := by rw [List.drop_eq_getElem_cons (by have := HLS.out; omega), HAT.out k hk1 (by have := HLS.out; omega)]
      obtain ⟨c, hc⟩ : ∃ c, F[k] = c := ⟨_, rfl⟩
      rw [hc] at hd1
      have HWA := Lib.hid (HO.out.later ((Below.refl _ wr).alloc (Nat.le_refl _) (.cells #[.int .u8 (c.toNat : Int)] 5)))
      have hcc : F[k] = c := hc
      clear hc
      by_cases hz : c = 0
      · subst hz
        have hd2 : L.drop (k + 1) = F[k + 1] :: L.drop (k + 2) := by rw [List.drop_eq_getElem_cons (by have := HLS.out; omega), HAT.out (k + 1) hlt (by have := HLS.out; omega)]
        obtain ⟨d, hd⟩ : ∃ d, F[k + 1] = d := ⟨_, rfl⟩
        rw [hd] at hd2
        have q0 : (((0 : UInt8).toNat : Int) != 0) = false := rfl
        have HTT := Lib.hid (show takeS L = preS l (if d = 0 then some ([], L.drop (k + 2)) else if d = 255 then (takeS (L.drop (k + 2))).map (fun x => (0 :: x.1, x.2)) else none) by rw [HT.out, hd1, hd2, takeS, if_pos rfl])
        have hdd : F[k + 1] = d := hd
        clear hd1 hd2 hd
        go_wp2_with (at_builtin; refine app_bytes rfl _ _ rfl w.heap.size _ l [0] rfl wr.heap.size 0 1 1 rfl HWA.out rfl (one_new wr _ _ rfl _) (by omega) (by simp; omega) ?_)
        intro v2 w2 h2 b2
        have B2 := Lib.hid (HB.out.trans (((Below.refl w.heap.size wr).alloc hbr _).trans b2))
        have H2 := Lib.hid h2
        obtain ⟨g, cap, hv, hg, hg2⟩ := h2.form (by simp)
        subst hv
        have hll : (l ++ [(0 : UInt8)]).length = l.length + 1 := by simp
        rw [hll] at H2 ⊢
        have p3 : (0 : Int) ≤ (k : Int) + 1 := by omega
        have p4 : ((k : Int) + 1).toNat = k + 1 := by omega
        have p5 : (k : Int) + 1 + 1 ≤ (F.size : Int) := by omega
        have hcap := H2.out.cap
        rw [hll] at hcap
        clear h2 b2 hg hg2 hll
        by_cases hd0 : d = 0
        · have q2 : ((d.toNat : Int) == 0) = true := by rw [hd0]; rfl
          have HT2 := Lib.hid (show takeS L = some (l, L.drop (k + 2)) by rw [HTT.out, if_pos hd0]; simp [preS])
          have hst : ∀ m, (convert 48 9 (.slice (some ⟨g, 0, none⟩) l.length cap)).run Try.prog (w2.drewN m) = .ok (.string ⟨l.toArray⟩) (w2.drewN m) := fun m => (H2.out.drewN m).str_but l.length cap rfl
          have HE := Lib.hid (show F.extract (k + 2) F.size = ⟨(L.drop (k + 2)).toArray⟩ by rw [ext_drop, HF.out])
          clear hd0
          go_wp2_with fail
          have hw1 : IntKind.i64.wrap (((l.length + 1 : Nat) : Int) - 1) = (l.length : Int) := by rw [show ((l.length + 1 : Nat) : Int) - 1 = (l.length : Int) by omega]; exact IntWalk.i64_in _ (by omega)
          have hw2 : IntKind.i64.wrap ((l.length : Int) + 1 - 1) = (l.length : Int) := by rw [show (l.length : Int) + 1 - 1 = (l.length : Int) by omega]; exact IntWalk.i64_in _ (by omega)
          have hw3 : IntKind.i64.wrap ((k : Int) + 1 + 1) = ((k + 2 : Nat) : Int) := by rw [show (k : Int) + 1 + 1 = ((k + 2 : Nat) : Int) by omega]; exact IntWalk.i64_in _ (by omega)
          have hw4 : IntKind.i64.wrap (l.length : Int) = (l.length : Int) := IntWalk.i64_in _ (by omega)
          have q5 : (0 : Int) ≤ (l.length : Int) := by omega
          have q6 : (l.length : Int) ≤ (cap : Int) := by omega
          go_quiet (fail)
          go_wp2_with fail
          go_ret3
          exact ⟨by rw [HT2.out]; show _ = Ending.returned (.tuple #[_, .string _, _]); rw [← HE.out]; rfl, below_drewN B2.out _⟩
        · have q2 : ((d.toNat : Int) == 0) = false := beq_eq_false_iff_ne.2 (fun h => hd0 (UInt8.toNat_inj.1 (by simpa using h)))
          by_cases hd5 : d = 255
          · have q3 : ((d.toNat : Int) == 255) = true := by rw [hd5]; rfl
            have HT2 := Lib.hid (show takeS L = preS (l ++ [0]) (takeS (L.drop (k + 2))) by rw [HTT.out, if_neg hd0, if_pos hd5, preS_map])
            clear hd0 hd5
            go_wp2_with fail
            exact ⟨⟨k + 2, l ++ [0], by omega, by simp; omega, HT2.out, by simp; omega, by simpa using H2.out, B2.out⟩, by simp [intOf]; omega⟩
          · have q3 : ((d.toNat : Int) == 255) = false := beq_eq_false_iff_ne.2 (fun h => hd5 (UInt8.toNat_inj.1 (by show d.toNat = 255; omega)))
            have HT2 := Lib.hid (show takeS L = none by rw [HTT.out, if_neg hd0, if_neg hd5]; rfl)
            clear hd0 hd5
            go_wp2_with fail
            go_ret3
            exact ⟨by rw [HT2.out]; rfl, B2.out⟩
      · have q0 : ((c.toNat : Int) != 0) = true := by rw [bne_iff_ne]; exact fun h => hz (UInt8.toNat_inj.1 (by simpa using h))
        have HT2 := Lib.hid (show takeS L = preS (l ++ [c]) (takeS (L.drop (k + 1))) by rw [HT.out, hd1, takeS_cons hz, preS_map])
        clear hz hd1
        go_wp2_with (at_builtin; refine app_bytes rfl _ _ rfl w.heap.size _ l [c] rfl wr.heap.size 0 1 1 rfl HWA.out rfl (one_new wr _ _ rfl _) (by omega) (by simp; omega) ?_)
        intro v2 w2 h2 b2
        have B2 := Lib.hid (HB.out.trans (((Below.refl w.heap.size wr).alloc hbr _).trans b2))
        have H2 := Lib.hid h2
        clear h2 b2
        go_wp2_with fail
        exact ⟨⟨k + 1, l ++ [c], by omega, by simp, HT2.out, by simp; omega, H2.out, B2.out⟩, by simp [intOf]; omega⟩
    · have HTT := Lib.hid (show takeS L = none by rw [HT.out, takeS_drop (by have := HLS.out; omega)]; rfl)
      have q1 : ¬ (k : Int) + 1 < (F.size : Int) := by omega
      go_wp2_with fail
      go_ret3
      exact ⟨by rw [HTT.out]; rfl, HB.out⟩
end Go.Proofs.Ytoicnpekbpphjaa.Or
