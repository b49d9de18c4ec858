/- Package slices: insertionSortCmpFunc at the shares of package split. -/
import Derived.Test.YtinfjfjheimceaaSoRot
namespace Go.Proofs.Ytinfjfjheimceaa.So
open Go Go.Sort Go.RowKit Go.Lib
set_option maxHeartbeats 4000000 in
set_option maxRecDepth 1000000 in
theorem ins_c {α : Type} [Inhabited α] (enc : α → List Value) (k : Nat) (hk3 : k = 3) (cf : α → α → Int) (g : Nat) (cb : Array Value) (blk off cap : Nat) (a b : Nat) (d0 d : Array α) (w0 w : World) (R : RowK enc k w0 blk off d0) (hs : d0.size = d.size) (S : SWK enc k w0 blk off d w) (eg : ∀ args w, (callFunc g args).run Try.prog w = .ok (.enter g args) w) (hcmp : CmpLays Try.prog g cb enc k cf blk off d0.size w0) (bf : α → α → Prop) (tr : ∀ x y z, bf x y → bf y z → bf x z) (fair : ∀ x y, a ≤ x → x < y → y < b → Ag (ltOf cf) bf d[x]! d[y]!) (hab : a ≤ b) (hb : b ≤ d.size) (hsz : d.size < 4611686018427387904) :
    Calls Try.prog 39 #[.slice (some ⟨blk, off, none⟩) d.size cap, .int .i64 a, .int .i64 b, .func (.func g) #[] cb] w fun e w' => e = .returned (.tuple #[]) ∧ ∃ d', Mrg bf a b d d' ∧ SWK enc k w0 blk off d' w' := by
  have mixed : Try.prog.follows .mixedOrders = true := by kernel_rfl
  have aE : ∀ w, (isAgg 44).run Try.prog w = .ok true w := fun _ => by kernel_rfl
  have zE : ∀ w, (Go.sizeOf 44).run Try.prog w = .ok k w := fun _ => by subst hk3; kernel_rfl
  have HK3 : Hid (k = 3) := hk3
  clear hk3
  have S0 : Hid (SWK enc k w0 blk off d w) := S
  have HC : Hid (CmpLays Try.prog g cb enc k cf blk off d0.size w0) := hcmp
  have TR := Lib.hid tr
  have FR := Lib.hid fair
  clear S hcmp tr fair
  go_enter Try.func39, Try.ntmps39
  go_wp2_with fail
  go_loopg [8] (b - a) (fun kx s8 wr => ∃ (i : Nat) (dk : Array α), s8 = .int .i64 (i : Int) ∧ a < i ∧ i ≤ b + 1 ∧ b + 1 - i ≤ kx + 1 ∧ Hid (Run (ltOf cf) bf d dk a i b) ∧ Hid (SWK enc k w0 blk off dk wr))
  case atStart => exact ⟨a + 1, d, by go_num, by omega, by omega, by omega, (Run.start : Run (ltOf cf) bf d d a (a + 1) b), S0⟩
  case round =>
    clear S0
    obtain ⟨i, dk, rfl, hai, hib, hkx, RN, S1⟩ := hrel
    by_cases hlt : i < b
    · have hltz : (i : Int) < (b : Int) := by omega
      have zk : dk.size = d.size := RN.out.perm.1
      go_wp2_with fail
      go_loopg [9] i (fun k2 s9 wr2 => ∃ (j : Nat) (dj : Array α), s9 = .int .i64 (j : Int) ∧ a ≤ j ∧ j ≤ i ∧ j ≤ k2 ∧ Hid (Shl dk dj j i) ∧ (j = i ∨ ltOf cf dk[i]! dk[j]! = true) ∧ Hid (SWK enc k w0 blk off dj wr2))
      case atStart => exact ⟨i, dk, rfl, by omega, Nat.le_refl _, Nat.le_refl _, (Shl.start (by omega) : Shl dk dk i i), Or.inl rfl, S1⟩
      case round =>
        clear S1
        obtain ⟨j, dj, rfl, haj, hji, hk2, SL, HB, S2⟩ := hrel
        have zj : dj.size = d.size := by rw [SL.out.size]; exact zk
        have HBH := Lib.hid HB
        clear HB
        by_cases hja : a < j
        · obtain ⟨jp, rfl⟩ : ∃ jp, j = jp + 1 := ⟨j - 1, by omega⟩
          have hjaz : (a : Int) < ((jp + 1 : Nat) : Int) := by omega
          have hjaz' : (a : Int) < (jp : Int) + 1 := by omega
          have at1 : dj[jp + 1]! = dk[i]! := SL.out.at_
          have at2 : dj[jp]! = dk[jp]! := SL.out.below (by omega)
          have AT : Hid (dj[jp + 1]! = dk[i]! ∧ dj[jp]! = dk[jp]!) := ⟨at1, at2⟩
          clear at1 at2
          cases hlv : ltOf cf dj[jp + 1]! dj[jp]! with
          | true =>
            have eap : ((jp : Int) + 1).toNat = jp + 1 := by omega
            have pap : (0 : Int) ≤ (jp : Int) + 1 := by omega
            have bap : (jp : Int) + 1 < (d.size : Int) := by omega
            have rap : IntKind.i64.wrap ((jp : Int) + 1) = (jp : Int) + 1 := by rw [IntKind.wrap_i64]; omega
            have ecp : ((jp : Int)).toNat = jp := by omega
            have pcp : (0 : Int) ≤ (jp : Int) := by omega
            have bcp : (jp : Int) < (d.size : Int) := by omega
            have rcp : IntKind.i64.wrap ((jp : Int)) = (jp : Int) := by rw [IntKind.wrap_i64]; omega
            obtain ⟨xp, hxp⟩ : ∃ x, x = dj[jp + 1]! := ⟨_, rfl⟩
            obtain ⟨yp, hyp⟩ : ∃ x, x = dj[jp]! := ⟨_, rfl⟩
            have lap := S2.out.ld R (by omega) Try.prog (jp + 1) (by omega)
            have lbp := S2.out.ld R (by omega) Try.prog (jp) (by omega)
            rw [← hxp] at lap
            rw [← hyp] at lbp
            have hcp := S2.out.cmp HC.out (by omega) xp yp
            have hvp : cf xp yp < 0 := by rw [hxp, hyp]; exact of_decide_eq_true hlv
            have hdp : decide (cf xp yp < 0) = true := decide_eq_true hvp
            clear hxp hyp
            have HLV := Lib.hid hlv
            clear hlv
            go_wp2_with fail
            go_quiet_grown (first | (go_at_fn g; refine Calls.grown_of (hcp _ _)))
            go_wp2_with fail
            have S2n : Hid (SWK enc k w0 blk off dj (grow (wr.drewN nq) osq)) := S2.out.grown nq osq
            clear lap lbp hcp S2
            generalize grow (wr.drewN nq) osq = w2 at S2n ⊢
            clear nq osq
            clear eap pap bap rap ecp pcp bcp rcp
            have eaq : ((jp : Int) + 1).toNat = jp + 1 := by omega
            have paq : (0 : Int) ≤ (jp : Int) + 1 := by omega
            have baq : (jp : Int) + 1 < (d.size : Int) := by omega
            have raq : IntKind.i64.wrap ((jp : Int) + 1) = (jp : Int) + 1 := by rw [IntKind.wrap_i64]; omega
            have ecq : ((jp : Int)).toNat = jp := by omega
            have pcq : (0 : Int) ≤ (jp : Int) := by omega
            have bcq : (jp : Int) < (d.size : Int) := by omega
            have rcq : IntKind.i64.wrap ((jp : Int)) = (jp : Int) := by rw [IntKind.wrap_i64]; omega
            have S2nn : Hid (SWK enc k w0 blk off (swp dj (jp + 1) (jp)) ((w2.drew.setCells blk (off + (jp + 1) * k) (enc dj[jp]!)).setCells blk (off + (jp) * k) (enc dj[jp + 1]!))) := S2n.out.swapped R (jp + 1) (jp) (by omega) (by omega)
            have laq := S2n.out.ld1 R (by omega) Try.prog (jp + 1) (by omega)
            have lbq := S2n.out.ld1 R (by omega) Try.prog (jp) (by omega)
            have saq := S2n.out.st1 R (by omega) Try.prog (jp + 1) (by omega) dj[jp]!
            have sbq := S2n.out.st2 R (by omega) Try.prog (jp + 1) (jp) (by omega) (by omega) dj[jp]! dj[jp + 1]!
            have naq : (enc dj[jp + 1]!).length = k := R.hk _
            have nbq : (enc dj[jp]!).length = k := R.hk _
            generalize enc dj[jp + 1]! = cIq at S2nn laq sbq naq
            generalize enc dj[jp]! = cJq at S2nn lbq saq sbq nbq
            clear S2n
            go_wp2_with fail
            go_big_region_o
            clear laq lbq saq sbq
            generalize (w2.drew.setCells blk (off + (jp + 1) * k) cJq).setCells blk (off + (jp) * k) cIq = w3 at S2nn ⊢
            clear eaq paq baq raq ecq pcq bcq rcq
            go_wp2_with fail
            go_roundg jp
            case measure => omega
            case rel => exact ⟨jp, _, by first | rfl | go_num | (congr 1; omega), by omega, by omega, Nat.le_refl _, (SL.out.step : Shl dk (swp dj (jp + 1) jp) jp i), Or.inr (by rw [← AT.out.1, ← AT.out.2]; exact HLV.out), S2nn⟩
          | false =>
            have eap : ((jp : Int) + 1).toNat = jp + 1 := by omega
            have pap : (0 : Int) ≤ (jp : Int) + 1 := by omega
            have bap : (jp : Int) + 1 < (d.size : Int) := by omega
            have rap : IntKind.i64.wrap ((jp : Int) + 1) = (jp : Int) + 1 := by rw [IntKind.wrap_i64]; omega
            have ecp : ((jp : Int)).toNat = jp := by omega
            have pcp : (0 : Int) ≤ (jp : Int) := by omega
            have bcp : (jp : Int) < (d.size : Int) := by omega
            have rcp : IntKind.i64.wrap ((jp : Int)) = (jp : Int) := by rw [IntKind.wrap_i64]; omega
            obtain ⟨xp, hxp⟩ : ∃ x, x = dj[jp + 1]! := ⟨_, rfl⟩
            obtain ⟨yp, hyp⟩ : ∃ x, x = dj[jp]! := ⟨_, rfl⟩
            have lap := S2.out.ld R (by omega) Try.prog (jp + 1) (by omega)
            have lbp := S2.out.ld R (by omega) Try.prog (jp) (by omega)
            rw [← hxp] at lap
            rw [← hyp] at lbp
            have hcp := S2.out.cmp HC.out (by omega) xp yp
            have hvp : ¬ cf xp yp < 0 := by rw [hxp, hyp]; exact of_decide_eq_false hlv
            have hdp : decide (cf xp yp < 0) = false := decide_eq_false hvp
            clear hxp hyp
            have HLV := Lib.hid hlv
            clear hlv
            go_wp2_with fail
            go_quiet_grown (first | (go_at_fn g; refine Calls.grown_of (hcp _ _)))
            go_wp2_with fail
            have S2n : Hid (SWK enc k w0 blk off dj (grow (wr.drewN nq) osq)) := S2.out.grown nq osq
            clear lap lbp hcp S2
            generalize grow (wr.drewN nq) osq = w2 at S2n ⊢
            clear nq osq
            clear eap pap bap rap ecp pcp bcp rcp
            go_roundg (b - (i + 1))
            case measure => omega
            case rel => exact ⟨i + 1, dj, by go_num, by omega, by omega, by omega, (RN.out.step TR.out FR.out hb hlt haj SL.out (Or.inr (by rw [← AT.out.1]; show ltOf cf _ dk[jp + 1 - 1]! = false; simp only [Nat.add_sub_cancel]; rw [← AT.out.2]; exact HLV.out)) HBH.out : Run (ltOf cf) bf d dj a (i + 1) b), S2n⟩
        · have hjaz : decide ((j : Int) > (a : Int)) = false := decide_eq_false (by omega)
          have hjaz' : ¬ (a : Int) < (j : Int) := by omega
          obtain rfl : j = a := by omega
          have S3 : Hid (SWK enc k w0 blk off dj wr.drew) := S2.out.drew
          go_wp2_with fail
          go_big_region_o
          all_goals go_wp2_with fail
          go_roundg (b - (i + 1))
          case measure => omega
          case rel => exact ⟨i + 1, dj, by go_num, by omega, by omega, by omega, (RN.out.step TR.out FR.out hb hlt haj SL.out (Or.inl rfl) HBH.out : Run (ltOf cf) bf d dj j (i + 1) b), S3⟩
    · have hltz : ¬ (i : Int) < (b : Int) := by omega
      go_wp2_with fail
      go_end0
      exact ⟨rfl, dk, RN.out.done (by omega), S1.out⟩
end Go.Proofs.Ytinfjfjheimceaa.So
