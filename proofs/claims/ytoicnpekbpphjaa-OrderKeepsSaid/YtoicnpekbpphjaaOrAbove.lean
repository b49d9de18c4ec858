/- Package order: Above. -/
import Derived.Test.YtoicnpekbpphjaaOrKinds
import Derived.Test.YtoicnpekbpphjaaOrAbove0
import Derived.Test.YtoicnpekbpphjaaOrRow
namespace Go.Proofs.Ytoicnpekbpphjaa.Or
open Go.RowKit Cm
def AbRes (l : List UInt8) (w : World) (e : Ending) (w' : World) : Prop := ∃ k, Ab l k ∧ (k = 0 → e = .returned (.tuple #[.string ⟨#[]⟩, .bool false])) ∧ (0 < k → e = .returned (.tuple #[.string ⟨(upTo l k).toArray⟩, .bool true])) ∧ Below w.heap.size w w'
theorem str_ne {l : List UInt8} (h : 0 < l.length) : l.isEmpty = false := by cases l with | nil => simp at h | cons => rfl
theorem set_last (l : List UInt8) (p : Nat) (h : p < l.length) (h9 : l[p].toNat + 1 ≤ 255) : ((l.take (p + 1)).map bv).set p (.int .u8 ((l[p].toNat : Int) + 1)) = (upTo l (p + 1)).map bv := by
  have e : l.take (p + 1) = l.take p ++ [l[p]] := List.take_succ_eq_append_getElem h
  have hl : (l.take p).length = p := by simp; omega
  unfold upTo
  rw [e, show p + 1 - 1 = p by omega, List.map_append, List.map_append, List.set_append_right _ _ (by simp; omega)]
  congr 1
  have e2 : l.getD p 0 = l[p] := by simp [h]
  rw [e2]
  have e3 : (UInt8.ofNat (l[p].toNat + 1)).toNat = l[p].toNat + 1 := by simp; omega
  simp only [List.length_map, hl, Nat.sub_self, List.map_cons, List.map_nil, List.set_cons_zero, bv, e3]
  rfl
theorem upTo_len (l : List UInt8) (p : Nat) (h : p < l.length) : (upTo l (p + 1)).length = p + 1 := by
  unfold upTo; simp; omega
def szOf : Value → Nat
  | .string b => b.size
  | _ => 0
set_option maxRecDepth 100000 in
set_option maxHeartbeats 1600000 in
theorem above_c (l : List UInt8) (w : World) (hs : l.length ≤ 1000000) : Calls Try.prog 22 #[.string ⟨l.toArray⟩] w (AbRes l w) := by
  go_enter Try.func22, Try.ntmps22
  go_wp2_with fail
  go_loop [0] (fun s => ∃ k : Nat, k ≤ l.length ∧ s = .string ⟨(l.take k).toArray⟩ ∧ ∀ j (h : j < l.length), k ≤ j → l[j] = 255) (fun s => szOf s)
  case atStart => exact ⟨l.length, Nat.le_refl _, by rw [List.take_length], fun j h h2 => by omega⟩
  case round =>
    obtain ⟨k, hk, rfl, hff⟩ := hrel
    have HFF := Lib.hid hff
    clear hff
    rcases Nat.eq_zero_or_pos k with h0 | h0
    · subst h0
      have HA := Lib.hid (show Ab l 0 from ⟨Nat.zero_le _, HFF.out, .inl rfl⟩)
      go_wp2_with fail
      go_ret2
      exact ⟨0, HA.out, fun _ => rfl, fun h => absurd h (by omega), Below.refl _ _⟩
    · obtain ⟨p, rfl⟩ : ∃ p, k = p + 1 := ⟨k - 1, by omega⟩
      have hpl : p < l.length := by omega
      obtain ⟨T, hT⟩ : ∃ T, l.take (p + 1) = T := ⟨_, rfl⟩
      have hTl : T.length = p + 1 := by rw [← hT, List.length_take]; omega
      have hTp : T[p]'(by omega) = l[p] := by subst hT; simp
      have hTt : T.take p = l.take p := by subst hT; rw [List.take_take]; congr 1; omega
      have hne : T.isEmpty = false := str_ne (by omega)
      rw [hT]
      obtain ⟨F, hF⟩ : ∃ F : ByteArray, (⟨T.toArray⟩ : ByteArray) = F := ⟨_, rfl⟩
      have hFs : F.size = p + 1 := by rw [← hF]; exact hTl
      have hFT : F.data.toList = T := by rw [← hF]
      have hp1 : p < F.size := by omega
      have hFp : F[p]'hp1 = l[p]'hpl := by
        rw [← byte_at F p hp1, ← hTp]
        congr 1
      have hFe : F.toList.isEmpty = false := by rw [ByteArray.toList_eq, hFT]; exact hne
      rw [hF]
      have hq : (F.size : Int) - 1 = (p : Int) := by omega
      have hp2 : (p : Int) < (F.size : Int) := by omega
      have hp0 : (0 : Int) ≤ (p : Int) := by omega
      have HFS := Lib.hid hFs
      have HFT := Lib.hid hFT
      have HTE := Lib.hid hT
      have HTT := Lib.hid hTt
      have HFP := Lib.hid hFp
      clear hT hTl hTp hTt hF hFs hFT hFp
      have hcs : (F[p].toNat : Int) = 255 ∨ (F[p].toNat : Int) ≠ 255 := by omega
      rcases hcs with hc | hc
      · have d1 : ((F[p].toNat : Int) == 255) = true := beq_iff_eq.2 hc
        have HN := Lib.hid (show ∀ j (h : j < l.length), p ≤ j → l[j] = 255 by
          intro j hj h
          by_cases h' : j = p
          · subst h'
            rw [← HFP.out]
            exact UInt8.toNat_inj.1 (by show _ = 255; omega)
          · exact HFF.out j hj (by omega))
        have HX := Lib.hid (show F.extract 0 p = ⟨(l.take p).toArray⟩ by rw [ext_take, HFT.out, HTT.out])
        clear hc
        go_wp2_with fail
        exact ⟨⟨p, by omega, by rw [HX.out], HN.out⟩, by show szOf (.string (F.extract 0 p)) < szOf (.string F); rw [HX.out]; show (l.take p).length < F.size; rw [HFS.out, List.length_take]; omega⟩
      · have d1 : ((F[p].toNat : Int) == 255) = false := beq_eq_false_iff_ne.2 hc
        have hc9 : F[p].toNat < 256 := F[p].toNat_lt
        have hc2 : (F[p].toNat : Int) + 1 ≤ 255 := by omega
        have hlp : l[p] ≠ 255 := by
          rw [← HFP.out]
          intro h
          rw [h] at hc
          exact hc rfl
        have HA := Lib.hid (show Ab l (p + 1) from ⟨by omega, HFF.out, .inr ⟨hpl, hlp⟩⟩)
        clear hlp
        obtain ⟨cp, w1, hcv, hrow, hb⟩ := bytes_conv w F
        have hrl : p < (F.data.toList.map bv).length := by simpa using hp1
        have c1 := RowAt.cell hrow p hrl
        have f1 := RowAt.free hrow p hrl
        have hbv : (F.data.toList.map bv)[p]'hrl = .int .u8 (F[p].toNat : Int) := by
          simp only [List.getElem_map]
          rw [byte_at F p hp1]
          rfl
        rw [hbv] at c1
        have HR := Lib.hid (RowAt.set hrow p (.int .u8 ((F[p].toNat : Int) + 1)))
        have HB := Lib.hid (hb.setCell (p := ⟨w.heap.size, p, none⟩) (Nat.le_refl _) (.int .u8 ((F[p].toNat : Int) + 1)))
        have hset := set_last l p hpl (by rw [← HFP.out]; omega)
        rw [HTE.out, ← HFT.out, ← HFP.out] at hset
        have hR2 := HR.out
        rw [hset] at hR2
        have hstr := row_str (cap := cp) hR2
        rw [upTo_len l p hpl, ← HFS.out] at hstr
        clear hc hrow hb hbv hrl hset hR2
        go_wp2_with fail
        go_ret2
        exact ⟨p + 1, HA.out, fun h => absurd h (by omega), fun _ => by rw [← HFS.out]; rfl, HB.out⟩
end Go.Proofs.Ytoicnpekbpphjaa.Or
