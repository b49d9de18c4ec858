/- Package quittanceref12: read, of strings. -/
import Derived.Test.YtoicnpekbpphjaaOrRRead
namespace Go.Proofs.Ytoicnpekbpphjaa.Or
open Go.RowKit Cm
theorem FdAt.under {w w' : World} {b B : Nat} {f : Fd} (h : FdAt w b f) (hb : Below B w w') (hB : b < B) : FdAt w' b f := by
  obtain ⟨h0, h1, h2, h3⟩ := h
  exact ⟨(hb.cell (p := ⟨b, 0, none⟩) hB).trans h0, (hb.cell (p := ⟨b, 1, none⟩) hB).trans h1, (hb.cell (p := ⟨b, 2, none⟩) hB).trans h2, Nat.lt_of_lt_of_le h3 hb.size⟩
theorem takeS_end {L l : List UInt8} {k : Nat} (hk : L.length ≤ k + 2) (h : takeS (L.drop k) = some (l, [])) : l = [] := by
  have hl : (L.drop k).length ≤ 2 := by rw [List.length_drop]; omega
  match hd : L.drop k with
  | [] => rw [hd] at h; cases h
  | [_] => rw [hd] at h; cases h
  | [c, d] =>
    rw [hd, takeS] at h
    split at h
    · split at h
      · exact (Prod.mk.inj (Option.some.inj h)).1.symm
      · split at h
        · cases h
        · cases h
    · cases h
  | _ :: _ :: _ :: _ => rw [hd] at hl; simp at hl
set_option maxRecDepth 100000 in
set_option maxHeartbeats 3200000 in
theorem read_s (c : UInt8) (F : ByteArray) (w : World) (hc : c.toNat = 115) (hF : 0 < F.size) (hF9 : F.size ≤ 5000) : Calls Try.prog 32 #[.int .u8 (c.toNat : Int), .string F] w (ReadRes c F.data.toList w) := by
  have d1 : ((c.toNat : Int) == 110) = false := beq_eq_false_iff_ne.2 (by omega)
  have d2 : ((c.toNat : Int) == 105) = false := beq_eq_false_iff_ne.2 (by omega)
  have HT := Lib.hid (show ∀ g, takeF c F.data.toList = some (g, []) → ∃ l : List UInt8, takeS F.data.toList = some (l, []) ∧ g = ⟨0, 0, ⟨l.toArray⟩⟩ by
    intro g h
    unfold takeF at h
    rw [if_neg (by omega), if_neg (by omega)] at h
    cases ht : takeS F.data.toList with
    | none => rw [ht] at h; cases h
    | some x =>
      rw [ht] at h
      obtain ⟨rfl, hr⟩ := Prod.mk.inj (Option.some.inj h)
      exact ⟨x.1, by rw [← hr], rfl⟩)
  have HDEC := Lib.hid (fun at_ L h1 h2 => takeS_dec (L := L) (at_ := at_) F h1 h2)
  obtain ⟨L, hL⟩ : ∃ L, F.data.toList = L := ⟨_, rfl⟩
  have hLs : L.length = F.size := by rw [← hL]; simp
  have HLS := Lib.hid hLs
  have HL := Lib.hid hL
  rw [hL] at HT ⊢
  clear hc hL hLs
  have hF0 := fd_two w ⟨0, 0, ⟨#[]⟩⟩ 47
  have hF1 : FdAt ((w.alloc (.cells #[.int .u64 0, .int .i64 0, .string ⟨#[]⟩] 47)).alloc (.cells #[.int .u64 0, .int .i64 0, .string ⟨#[]⟩] 47)) (w.heap.size + 1) ⟨0, 0, ⟨#[]⟩⟩ := by
    have := fd_new (w.alloc (.cells #[.int .u64 0, .int .i64 0, .string ⟨#[]⟩] 47)) ⟨0, 0, ⟨#[]⟩⟩ 47
    rwa [World.size_alloc] at this
  have hZ : ∀ b j, b = w.heap.size ∨ b = w.heap.size + 1 → ((w.alloc (.cells #[.int .u64 0, .int .i64 0, .string ⟨#[]⟩] 47)).alloc (.cells #[.int .u64 0, .int .i64 0, .string ⟨#[]⟩] 47)).frozen? ⟨b, j, none⟩ = false := by
    rintro b j (rfl | rfl) <;> simp [go_sem]
  have hBW := below2 w (.cells #[.int .u64 0, .int .i64 0, .string ⟨#[]⟩] 47) (.cells #[.int .u64 0, .int .i64 0, .string ⟨#[]⟩] 47)
  have hz2 : ((w.alloc (.cells #[.int .u64 0, .int .i64 0, .string ⟨#[]⟩] 47)).alloc (.cells #[.int .u64 0, .int .i64 0, .string ⟨#[]⟩] 47)).heap.size = w.heap.size + 2 := by simp
  go_enter Try.func32, Try.ntmps32
  go_wp2_with fail
  generalize (w.alloc (.cells #[.int .u64 0, .int .i64 0, .string ⟨#[]⟩] 47)).alloc (.cells #[.int .u64 0, .int .i64 0, .string ⟨#[]⟩] 47) = W1 at hF0 hF1 hZ hBW hz2 ⊢
  have HF0 := Lib.hid hF0
  have HF1 := Lib.hid hF1
  have HZ := Lib.hid hZ
  have HBW := Lib.hid hBW
  have HZ2 := Lib.hid hz2
  clear hF0 hF1 hZ hBW hz2
  go_loopw [6, 7] (fun s6 s7 wr => ∃ (k : Nat) (acc : List UInt8), k ≤ F.size ∧ s7 = .int .i64 (k : Int) ∧ acc.length ≤ k ∧ OwnB (w.heap.size + 2) wr s6 acc ∧ (∀ l, takeS L = some (l, []) → ∃ l', takeS (L.drop k) = some (l', []) ∧ l = acc ++ l') ∧ Below (w.heap.size + 2) W1 wr) (fun _ s7 _ => F.size - (intOf s7).toNat)
  case atStart => exact ⟨0, [], by omega, rfl, by simp, OwnB.nil _ _, fun l h => ⟨l, h, rfl⟩, Below.refl _ _⟩
  case round =>
    obtain ⟨k, acc, hk, rfl, hal, hO, hinv, hB⟩ := hrel
    have HO := Lib.hid hO
    have HI := Lib.hid hinv
    have HB := Lib.hid hB
    have hbr : w.heap.size + 2 ≤ wr.heap.size := by have := hB.size; rw [HZ2.out] at this; exact this
    clear hO hinv hB
    by_cases hlt : k + 2 < F.size
    · have p0 : (0 : Int) ≤ (k : Int) := by omega
      have p1 : (k : Int) + 2 < (F.size : Int) := by omega
      have p2 : (k : Int) < (F.size : Int) := by omega
      have hdec := HDEC.out k L HL.out (by omega)
      obtain ⟨a, ha⟩ : ∃ a, F[k]'(by omega) = a := ⟨_, rfl⟩
      obtain ⟨d, hd⟩ : ∃ d, F[k + 1]'(by omega) = d := ⟨_, rfl⟩
      rw [ha, hd] at hdec
      have haa : F[k]'(by omega) = a := ha
      have HWA := Lib.hid (HO.out.later ((Below.refl _ wr).alloc (Nat.le_refl _) (.cells #[.int .u8 (a.toNat : Int)] 5)))
      clear ha hd
      by_cases h0 : a = 0
      · have q2 : ((a.toNat : Int) == 0) = true := by rw [h0]; rfl
        have HN := Lib.hid (show ∀ l, takeS L = some (l, []) → ∃ l', takeS (L.drop (k + 2)) = some (l', []) ∧ l = (acc ++ [a]) ++ l' by
          intro l h
          obtain ⟨l', hl', rfl⟩ := HI.out l h
          rw [hdec, takeS, if_pos h0] at hl'
          split at hl'
          · have := congrArg List.length (Prod.mk.inj (Option.some.inj hl')).2
            rw [List.length_drop, HLS.out] at this
            simp at this
            omega
          · split at hl'
            · cases h2 : takeS (L.drop (k + 2)) with
              | none => rw [h2] at hl'; cases hl'
              | some x =>
                rw [h2] at hl'
                obtain ⟨rfl, hr⟩ := Prod.mk.inj (Option.some.inj hl')
                exact ⟨x.1, by rw [← hr], by simp [h0]⟩
            · cases hl')
        clear h0 hdec
        go_wp2_with (at_builtin; refine app_bytes rfl _ _ rfl (w.heap.size + 2) _ acc [a] rfl wr.heap.size 0 1 1 rfl HWA.out rfl (one_new wr _ _ rfl _) (by omega) (by simp; omega) ?_)
        intro v2 w2 h2 b2
        have B2 := Lib.hid (HB.out.trans (((Below.refl (w.heap.size + 2) wr).alloc hbr _).trans b2))
        have H2 := Lib.hid h2
        clear h2 b2
        go_wp2_with fail
        exact ⟨⟨k + 2, acc ++ [a], by omega, by simp; omega, by simp; omega, H2.out, HN.out, B2.out⟩, by simp [intOf]; omega⟩
      · have q2 : ((a.toNat : Int) == 0) = false := beq_eq_false_iff_ne.2 (fun h => h0 (UInt8.toNat_inj.1 (by simpa using h)))
        have HN := Lib.hid (show ∀ l, takeS L = some (l, []) → ∃ l', takeS (L.drop (k + 1)) = some (l', []) ∧ l = (acc ++ [a]) ++ l' by
          intro l h
          obtain ⟨l', hl', rfl⟩ := HI.out l h
          have hd1 : L.drop (k + 1) = d :: L.drop (k + 2) := by
            have := congrArg List.tail hdec
            rw [List.tail_drop] at this
            exact this
          rw [hdec, takeS_cons h0, ← hd1] at hl'
          cases h2 : takeS (L.drop (k + 1)) with
          | none => rw [h2] at hl'; cases hl'
          | some x =>
            rw [h2] at hl'
            obtain ⟨rfl, hr⟩ := Prod.mk.inj (Option.some.inj hl')
            exact ⟨x.1, by rw [← hr], by simp⟩)
        clear h0 hdec
        go_wp2_with (at_builtin; refine app_bytes rfl _ _ rfl (w.heap.size + 2) _ acc [a] rfl wr.heap.size 0 1 1 rfl HWA.out rfl (one_new wr _ _ rfl _) (by omega) (by simp; omega) ?_)
        intro v2 w2 h2 b2
        have B2 := Lib.hid (HB.out.trans (((Below.refl (w.heap.size + 2) wr).alloc hbr _).trans b2))
        have H2 := Lib.hid h2
        clear h2 b2
        go_wp2_with fail
        exact ⟨⟨k + 1, acc ++ [a], by omega, by simp, by simp; omega, H2.out, HN.out, B2.out⟩, by simp [intOf]; omega⟩
    · have q1 : ¬ (k : Int) + 2 < (F.size : Int) := by omega
      have HK := Lib.hid (show ∀ g, takeF c L = some (g, []) → (⟨0, 0, ⟨acc.toArray⟩⟩ : Fd) = g by
        intro g h
        obtain ⟨l, hl, rfl⟩ := HT.out g h
        obtain ⟨l', hl', rfl⟩ := HI.out l hl
        rw [takeS_end (by have := HLS.out; omega) hl', List.append_nil])
      have hstr := HO.out.str
      have X0 := HF0.out.under HB.out (by omega)
      have X1 := HF1.out.under HB.out (by omega)
      have X3 := Lib.hid (X1.sets ⟨acc.toArray⟩)
      have Y3 := Lib.hid (show FdAt (wr.setCell ⟨w.heap.size + 1, 2, none⟩ (.string ⟨acc.toArray⟩)) w.heap.size ⟨0, 0, ⟨#[]⟩⟩ from by
        obtain ⟨h0, h1, h2, h3⟩ := X0
        exact ⟨(World.cell?_setCell_other _ _ _ _ (by simp)).trans h0, (World.cell?_setCell_other _ _ _ _ (by simp)).trans h1, (World.cell?_setCell_other _ _ _ _ (by simp)).trans h2, by simpa [World.setCell] using h3⟩)
      have z := fun b j hb => (HB.out.frozen (p := ⟨b, j, none⟩) (show b < w.heap.size + 2 by omega)).trans (HZ.out b j hb)
      have f0 := z _ 0 (.inl rfl)
      have f1 := z _ 1 (.inl rfl)
      have f2 := z _ 2 (.inl rfl)
      have g0 := z _ 2 (.inr rfl)
      have B3 := Lib.hid ((HBW.out.trans (HB.out.mono (by omega))).setCell (p := ⟨w.heap.size + 1, 2, none⟩) (show w.heap.size ≤ w.heap.size + 1 by omega) (.string ⟨acc.toArray⟩))
      obtain ⟨c0, c1, c2, c3⟩ := X1
      obtain ⟨k0, k1, k2, k3⟩ := X0
      simp only at c0 c1 c2 k0 k1 k2
      clear z
      go_wp2_with fail
      rw [fold_putFd]
      generalize wr.setCell ⟨w.heap.size + 1, 2, none⟩ (.string ⟨acc.toArray⟩) = W3 at X3 Y3 B3 ⊢
      obtain ⟨e0, e1, e2, _⟩ := Y3.out.put ⟨0, 0, ⟨acc.toArray⟩⟩
      have B4 := below_putFd B3.out (Nat.le_refl _) ⟨0, 0, ⟨acc.toArray⟩⟩
      generalize putFd W3 w.heap.size ⟨0, 0, ⟨acc.toArray⟩⟩ = W5 at e0 e1 e2 B4 ⊢
      simp only at e0 e1 e2
      refine bodyPost_ret (v := .agg #[.int .u64 0, .int .i64 0, .string ⟨acc.toArray⟩]) (by simp [results, Try.results32, go_sem, e0, e1, e2]) rfl ⟨⟨0, 0, ⟨acc.toArray⟩⟩, rfl, ⟨by simp, by simp, by simp, by simp⟩, (by show acc.length ≤ 5000; omega), HK.out, B4⟩
end Go.Proofs.Ytoicnpekbpphjaa.Or
