/- Package quittanceref12: Above. -/
import Derived.Test.YtoicnpekbpphjaaOrAbove
import Derived.Deep.RegionWith
import Derived.RegionTactic
namespace Go.Proofs.Ytoicnpekbpphjaa.Or
open Go.RowKit Cm
theorem one_c (n : Nat) (w : World) (hn : n ≤ 255) : Calls Try.prog 34 #[.int .i64 (n : Int)] w fun e w' => e = .returned (.string ⟨#[UInt8.ofNat n]⟩) ∧ Below w.heap.size w w' := by
  have h1 := one_str w n (by omega)
  go_enter Try.func34, Try.ntmps34
  go_wp2_with fail
  go_ret
  exact ⟨rfl, (Below.refl _ w).alloc (Nat.le_refl _) _⟩
theorem upTo_cat (l : List UInt8) (p : Nat) (h : p < l.length) : (⟨l.toArray⟩ : ByteArray).extract 0 p ++ (⟨#[UInt8.ofNat (l[p].toNat + 1)]⟩ : ByteArray) = ⟨(upTo l (p + 1)).toArray⟩ := by
  rw [ext_take]
  have e : (⟨#[UInt8.ofNat (l[p].toNat + 1)]⟩ : ByteArray) = ⟨[UInt8.ofNat (l[p].toNat + 1)].toArray⟩ := rfl
  rw [e, cat_mk2]
  unfold upTo
  rw [show p + 1 - 1 = p by omega]
  have e2 : l.getD p 0 = l[p] := by simp [h]
  rw [e2]
set_option maxRecDepth 100000 in
set_option maxHeartbeats 1600000 in
theorem rabove_c (l : List UInt8) (w : World) (hs : l.length ≤ 1000000) : Calls Try.prog 23 #[.string ⟨l.toArray⟩] w (AbRes l w) := by
  obtain ⟨F, hF⟩ : ∃ F : ByteArray, (⟨l.toArray⟩ : ByteArray) = F := ⟨_, rfl⟩
  have hFl : F.data.toList = l := by rw [← hF]
  have hFs : F.size = l.length := by rw [← hF]; rfl
  have HF := Lib.hid hF
  have HFL := Lib.hid hFl
  have HFS := Lib.hid hFs
  have hF9 : F.size ≤ 1000000 := by omega
  rw [hF]
  clear hF hFl hFs
  go_enter Try.func23, Try.ntmps23
  go_wp2_with fail
  go_loop [4] (fun s => ∃ k : Nat, k ≤ F.size ∧ s = .int .i64 k ∧ ∀ j (h : j < l.length), k ≤ j → l[j] = 255) (fun s => (intOf s).toNat)
  case atStart => exact ⟨F.size, Nat.le_refl _, rfl, fun j h h2 => by have := HFS.out; omega⟩
  case round =>
    obtain ⟨k, hk, rfl, hff⟩ := hrel
    have HFF := Lib.hid hff
    clear hff
    rcases Nat.eq_zero_or_pos k with h0 | h0
    · have HA := Lib.hid (show Ab l 0 from ⟨Nat.zero_le _, fun j h _ => HFF.out j h (by omega), .inl rfl⟩)
      have q1 : ¬ (0 : Int) < (k : Int) := by omega
      have q2 : ((k : Int) == 0) = true := beq_iff_eq.2 (by omega)
      clear h0
      go_wp2_with fail
      go_ret2
      exact ⟨0, HA.out, fun _ => rfl, fun h => absurd h (by omega), Below.refl _ _⟩
    · obtain ⟨p, rfl⟩ : ∃ p, k = p + 1 := ⟨k - 1, by omega⟩
      have hpl : p < l.length := by have := HFS.out; omega
      have hp1 : p < F.size := by omega
      have hFp : F[p]'hp1 = l[p]'hpl := by
        rw [← byte_at F p hp1]
        congr 1
      have HFP := Lib.hid hFp
      clear hFp
      have hq : ((p + 1 : Nat) : Int) - 1 = (p : Int) := by omega
      have hp2 : (p : Int) < (F.size : Int) := by omega
      have hp3 : (p : Int) ≤ (F.size : Int) := by omega
      have hp0 : (0 : Int) ≤ (p : Int) := by omega
      have q1 : (0 : Int) < ((p + 1 : Nat) : Int) := by omega
      have q2 : (((p + 1 : Nat) : Int) == 0) = false := beq_eq_false_iff_ne.2 (by omega)
      have hcs : (F[p].toNat : Int) = 255 ∨ (F[p].toNat : Int) ≠ 255 := by omega
      rcases hcs with hc | hc
      · have d1 : ((F[p].toNat : Int) == 255) = true := beq_iff_eq.2 hc
        have HN := Lib.hid (show ∀ j (h : j < l.length), p ≤ j → l[j] = 255 by
          intro j hj h
          by_cases h' : j = p
          · subst h'
            rw [← HFP.out]
            exact UInt8.toNat_inj.1 (by show _ = 255; omega)
          · exact HFF.out j hj (by omega))
        clear hc
        go_wp2_with fail
        exact ⟨⟨p, by omega, rfl, HN.out⟩, by simp [intOf]⟩
      · have d1 : ((F[p].toNat : Int) == 255) = false := beq_eq_false_iff_ne.2 hc
        have hc9 : F[p].toNat < 256 := F[p].toNat_lt
        have hlp : l[p] ≠ 255 := by
          rw [← HFP.out]
          intro h
          rw [h] at hc
          exact hc rfl
        have HA := Lib.hid (show Ab l (p + 1) from ⟨by omega, HFF.out, .inr ⟨hpl, hlp⟩⟩)
        have K1 := Lib.hid (fun (z : Int) w (hz : z = ((F[p].toNat + 1 : Nat) : Int)) => hz ▸ one_c (F[p].toNat + 1) w (by omega))
        have HC := Lib.hid (upTo_cat l p hpl)
        rw [← HFP.out, HF.out, show UInt8.ofNat (F[p].toNat + 1) = F[p] + 1 by simp] at HC
        have hw1 : IntKind.i64.wrap ((F[p].toNat : Int) + 1) = (F[p].toNat : Int) + 1 := IntWalk.i64_in _ (by omega)
        have hw2 : IntKind.i64.wrap (((p + 1 : Nat) : Int) - 1) = (p : Int) := by rw [hq]; exact IntWalk.i64_in _ (by omega)
        have hw3 : IntKind.i64.wrap (p : Int) = (p : Int) := IntWalk.i64_in _ (by omega)
        have hw4 : IntKind.i64.wrap ((p : Int) + 1 - 1) = (p : Int) := by rw [show (p : Int) + 1 - 1 = (p : Int) by omega]; exact hw3
        have hw5 : IntKind.i64.wrap (F[p].toNat : Int) = (F[p].toNat : Int) := IntWalk.i64_in _ (by omega)
        have y1 : (F.extract 0 p).size ≤ 1000000 := by rw [ByteArray.size_extract]; omega
        clear hlp hc
        go_wp2_with fail
        go_region_with (first | (go_at_call 34; refine (K1.out _ _ (by omega)).mono ?_; rintro e u ⟨rfl, b⟩))
        all_goals go_wp2_with fail
        all_goals go_ret2
        all_goals exact ⟨p + 1, HA.out, fun h => absurd h (by omega), fun _ => by rw [← HC.out]; rfl, ((Below.refl _ w).drew).trans b⟩
end Go.Proofs.Ytoicnpekbpphjaa.Or
