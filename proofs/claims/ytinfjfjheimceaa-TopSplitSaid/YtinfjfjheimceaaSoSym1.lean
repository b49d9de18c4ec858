/- Package slices: symMergeCmpFunc at the shares of package split, where one part has one element. -/
import Derived.Test.YtinfjfjheimceaaSoIns
namespace Go.Proofs.Ytinfjfjheimceaa.So
open Go Go.Sort Go.RowKit Go.Lib
set_option maxHeartbeats 4000000 in
set_option maxRecDepth 1000000 in
theorem sym1_c {α : Type} [Inhabited α] (enc : α → List Value) (k : Nat) (hk3 : k = 3) (cf : α → α → Int) (g : Nat) (cb : Array Value) (blk off cap : Nat) (a m b : Nat) (d0 d : Array α) (w0 w : World) (R : RowK enc k w0 blk off d0) (hs : d0.size = d.size) (S : SWK enc k w0 blk off d w) (eg : ∀ args w, (callFunc g args).run Try.prog w = .ok (.enter g args) w) (hcmp : CmpLays Try.prog g cb enc k cf blk off d0.size w0) (bf : α → α → Prop) (tr : ∀ x y z, bf x y → bf y z → bf x z) (hm : m = a + 1) (hmb : m < b) (hb : b ≤ d.size) (hsz : d.size < 4611686018427387904) (hr : Srt bf m b d) (ag : Agr (ltOf cf) bf a m b d) :
    Calls Try.prog 40 #[.slice (some ⟨blk, off, none⟩) d.size cap, .int .i64 a, .int .i64 m, .int .i64 b, .func (.func g) #[] cb] w fun e w' => e = .returned (.tuple #[]) ∧ ∃ d', Mrg bf a b d d' ∧ SWK enc k w0 blk off d' w' := by
  have mixed : Try.prog.follows .mixedOrders = true := by kernel_rfl
  have aE : ∀ w, (isAgg 44).run Try.prog w = .ok true w := fun _ => by kernel_rfl
  have zE : ∀ w, (Go.sizeOf 44).run Try.prog w = .ok k w := fun _ => by subst hk3; kernel_rfl
  have HK3 : Hid (k = 3) := hk3
  clear hk3
  have S0 : Hid (SWK enc k w0 blk off d w) := S
  have HC : Hid (CmpLays Try.prog g cb enc k cf blk off d0.size w0) := hcmp
  have TR := Lib.hid tr
  have HR := Lib.hid hr
  have AG := Lib.hid ag
  have ham : a < m := by omega
  have hma : m ≤ a + 1 := by omega
  have t1 : ((m : Int) - (a : Int) == 1) = true := by simp; omega
  clear S hcmp tr hr ag
  have HM := Lib.hid hm
  clear hm
  go_enter Try.func40, Try.ntmps40
  go_wp2_with fail
  go_loopg [10, 11] (b - m) (fun kx s10 s11 wr => ∃ (i j : Nat), s10 = .int .i64 (i : Int) ∧ s11 = .int .i64 (j : Int) ∧ m ≤ i ∧ i ≤ j ∧ j ≤ b ∧ j - i ≤ kx ∧ Hid (i = m ∨ ltOf cf d[i - 1]! d[a]! = true) ∧ Hid (j = b ∨ ltOf cf d[j]! d[a]! = false) ∧ Hid (SWK enc k w0 blk off d wr))
  case atStart => exact ⟨m, b, rfl, rfl, Nat.le_refl _, by omega, Nat.le_refl _, Nat.le_refl _, Lib.hid (Or.inl rfl), Lib.hid (Or.inl rfl), S0⟩
  case round =>
    clear S0
    obtain ⟨i, j, rfl, rfl, hmi, hij, hjb, hkx, HI, HJ, S1⟩ := hrel
    by_cases hlt : i < j
    · have hltz : (i : Int) < (j : Int) := by omega
      obtain ⟨h, hh⟩ : ∃ h, h = (i + j) / 2 := ⟨_, rfl⟩
      have h1 : i ≤ h := by omega
      have h2 : h < j := by omega
      have e1 : ((i : Int) + (j : Int)) / 2 = (h : Int) := by omega
      clear hh
      cases hlv : ltOf cf d[h]! d[a]! with
      | true =>
        have eap : ((h : Int)).toNat = h := by omega
        have pap : (0 : Int) ≤ (h : Int) := by omega
        have bap : (h : Int) < (d.size : Int) := by omega
        have rap : IntKind.i64.wrap ((h : Int)) = (h : Int) := by rw [IntKind.wrap_i64]; omega
        have ecp : ((a : Int)).toNat = a := by omega
        have pcp : (0 : Int) ≤ (a : Int) := by omega
        have bcp : (a : Int) < (d.size : Int) := by omega
        have rcp : IntKind.i64.wrap ((a : Int)) = (a : Int) := by rw [IntKind.wrap_i64]; omega
        obtain ⟨xp, hxp⟩ : ∃ x, x = d[h]! := ⟨_, rfl⟩
        obtain ⟨yp, hyp⟩ : ∃ x, x = d[a]! := ⟨_, rfl⟩
        have lap := S1.out.ld R (by omega) Try.prog (h) (by omega)
        have lbp := S1.out.ld R (by omega) Try.prog (a) (by omega)
        rw [← hxp] at lap
        rw [← hyp] at lbp
        have hcp := S1.out.cmp HC.out (by omega) xp yp
        have hvp : cf xp yp < 0 := by rw [hxp, hyp]; exact of_decide_eq_true hlv
        have hdp : decide (cf xp yp < 0) = true := decide_eq_true hvp
        clear hxp hyp
        have HLV := Lib.hid hlv
        clear hlv
        go_wp2_with fail
        go_quiet_grown (first | (go_at_fn g; refine Calls.grown_of (hcp _ _)))
        go_wp2_with fail
        have S1n : Hid (SWK enc k w0 blk off d (grow (wr.drewN nq) osq)) := S1.out.grown nq osq
        clear lap lbp hcp S1
        generalize grow (wr.drewN nq) osq = w2 at S1n ⊢
        clear nq osq
        clear eap pap bap rap ecp pcp bcp rcp
        go_roundg (j - (h + 1))
        case measure => omega
        case rel => exact ⟨h + 1, j, by go_num, rfl, by omega, by omega, hjb, Nat.le_refl _, Lib.hid (Or.inr (by simpa using HLV.out)), HJ, S1n⟩
      | false =>
        have eap : ((h : Int)).toNat = h := by omega
        have pap : (0 : Int) ≤ (h : Int) := by omega
        have bap : (h : Int) < (d.size : Int) := by omega
        have rap : IntKind.i64.wrap ((h : Int)) = (h : Int) := by rw [IntKind.wrap_i64]; omega
        have ecp : ((a : Int)).toNat = a := by omega
        have pcp : (0 : Int) ≤ (a : Int) := by omega
        have bcp : (a : Int) < (d.size : Int) := by omega
        have rcp : IntKind.i64.wrap ((a : Int)) = (a : Int) := by rw [IntKind.wrap_i64]; omega
        obtain ⟨xp, hxp⟩ : ∃ x, x = d[h]! := ⟨_, rfl⟩
        obtain ⟨yp, hyp⟩ : ∃ x, x = d[a]! := ⟨_, rfl⟩
        have lap := S1.out.ld R (by omega) Try.prog (h) (by omega)
        have lbp := S1.out.ld R (by omega) Try.prog (a) (by omega)
        rw [← hxp] at lap
        rw [← hyp] at lbp
        have hcp := S1.out.cmp HC.out (by omega) xp yp
        have hvp : ¬ cf xp yp < 0 := by rw [hxp, hyp]; exact of_decide_eq_false hlv
        have hdp : decide (cf xp yp < 0) = false := decide_eq_false hvp
        clear hxp hyp
        have HLV := Lib.hid hlv
        clear hlv
        go_wp2_with fail
        go_quiet_grown (first | (go_at_fn g; refine Calls.grown_of (hcp _ _)))
        go_wp2_with fail
        have S1n : Hid (SWK enc k w0 blk off d (grow (wr.drewN nq) osq)) := S1.out.grown nq osq
        clear lap lbp hcp S1
        generalize grow (wr.drewN nq) osq = w2 at S1n ⊢
        clear nq osq
        clear eap pap bap rap ecp pcp bcp rcp
        go_roundg (h - i)
        case measure => omega
        case rel => exact ⟨i, h, rfl, rfl, hmi, h1, by omega, Nat.le_refl _, HI, Lib.hid (Or.inr HLV.out), S1n⟩
    · have hltz : ¬ (i : Int) < (j : Int) := by omega
      have HIJ : Hid (i = j) := by show i = j; omega
      go_wp2_with fail
      go_loopg [13] (i - 1 - a) (fun kx s13 wr => ∃ (q : Nat) (e : Array α), s13 = .int .i64 (q : Int) ∧ a ≤ q ∧ q + 1 ≤ i ∧ i - 1 - q ≤ kx ∧ Hid (Shr d e a q) ∧ Hid (SWK enc k w0 blk off e wr))
      case atStart => exact ⟨a, d, rfl, Nat.le_refl _, by omega, Nat.le_refl _, Lib.hid (Shr.start (by omega)), S1⟩
      case round =>
        clear S1
        obtain ⟨q, e, rfl, haq, hqi, hkq, SR, S2⟩ := hrel
        have zj : e.size = d.size := SR.out.size
        by_cases hql : q < i - 1
        · have hqz : (q : Int) < (i : Int) - 1 := by omega
          go_wp2_with fail
          have eaq : ((q : Int)).toNat = q := by omega
          have paq : (0 : Int) ≤ (q : Int) := by omega
          have baq : (q : Int) < (d.size : Int) := by omega
          have raq : IntKind.i64.wrap ((q : Int)) = (q : Int) := by rw [IntKind.wrap_i64]; omega
          have ecq : (((q : Int) + 1)).toNat = q + 1 := by omega
          have pcq : (0 : Int) ≤ ((q : Int) + 1) := by omega
          have bcq : ((q : Int) + 1) < (d.size : Int) := by omega
          have rcq : IntKind.i64.wrap (((q : Int) + 1)) = ((q : Int) + 1) := by rw [IntKind.wrap_i64]; omega
          have S2n : Hid (SWK enc k w0 blk off (swp e (q) (q + 1)) ((wr.drew.setCells blk (off + (q) * k) (enc e[q + 1]!)).setCells blk (off + (q + 1) * k) (enc e[q]!))) := S2.out.swapped R (q) (q + 1) (by omega) (by omega)
          have laq := S2.out.ld1 R (by omega) Try.prog (q) (by omega)
          have lbq := S2.out.ld1 R (by omega) Try.prog (q + 1) (by omega)
          have saq := S2.out.st1 R (by omega) Try.prog (q) (by omega) e[q + 1]!
          have sbq := S2.out.st2 R (by omega) Try.prog (q) (q + 1) (by omega) (by omega) e[q + 1]! e[q]!
          have naq : (enc e[q]!).length = k := R.hk _
          have nbq : (enc e[q + 1]!).length = k := R.hk _
          generalize enc e[q]! = cIq at S2n laq sbq naq
          generalize enc e[q + 1]! = cJq at S2n lbq saq sbq nbq
          clear S2
          go_wp2_with fail
          go_big_region_o
          clear laq lbq saq sbq
          generalize (wr.drew.setCells blk (off + (q) * k) cJq).setCells blk (off + (q + 1) * k) cIq = w2 at S2n ⊢
          clear eaq paq baq raq ecq pcq bcq rcq
          go_wp2_with fail
          go_roundg (i - 1 - (q + 1))
          case measure => omega
          case rel => exact ⟨q + 1, _, by go_num, by omega, by omega, Nat.le_refl _, Lib.hid (SR.out.step (by omega)), S2n⟩
        · have hqz : ¬ (q : Int) < (i : Int) - 1 := by omega
          go_wp2_with fail
          refine bodyPost_ret (results_none rfl _ _ _) rfl ?_
          refine ⟨rfl, e, ?_, S2.out⟩
          obtain rfl := HM.out
          obtain rfl := HIJ.out
          obtain rfl : i = q + 1 := by omega
          exact mrg_first TR.out (by omega) hjb hb HR.out AG.out HJ.out HI.out SR.out.rot
set_option maxHeartbeats 4000000 in
set_option maxRecDepth 1000000 in
theorem sym2_c {α : Type} [Inhabited α] (enc : α → List Value) (k : Nat) (hk3 : k = 3) (cf : α → α → Int) (g : Nat) (cb : Array Value) (blk off cap : Nat) (a m b : Nat) (d0 d : Array α) (w0 w : World) (R : RowK enc k w0 blk off d0) (hs : d0.size = d.size) (S : SWK enc k w0 blk off d w) (eg : ∀ args w, (callFunc g args).run Try.prog w = .ok (.enter g args) w) (hcmp : CmpLays Try.prog g cb enc k cf blk off d0.size w0) (bf : α → α → Prop) (tr : ∀ x y z, bf x y → bf y z → bf x z) (hb1 : b = m + 1) (ham : a + 1 < m) (hb : b ≤ d.size) (hsz : d.size < 4611686018427387904) (hl : Srt bf a m d) (ag : Agr (ltOf cf) bf a m b d) :
    Calls Try.prog 40 #[.slice (some ⟨blk, off, none⟩) d.size cap, .int .i64 a, .int .i64 m, .int .i64 b, .func (.func g) #[] cb] w fun e w' => e = .returned (.tuple #[]) ∧ ∃ d', Mrg bf a b d d' ∧ SWK enc k w0 blk off d' w' := by
  have mixed : Try.prog.follows .mixedOrders = true := by kernel_rfl
  have aE : ∀ w, (isAgg 44).run Try.prog w = .ok true w := fun _ => by kernel_rfl
  have zE : ∀ w, (Go.sizeOf 44).run Try.prog w = .ok k w := fun _ => by subst hk3; kernel_rfl
  have HK3 : Hid (k = 3) := hk3
  clear hk3
  have S0 : Hid (SWK enc k w0 blk off d w) := S
  have HC : Hid (CmpLays Try.prog g cb enc k cf blk off d0.size w0) := hcmp
  have TR := Lib.hid tr
  have HL := Lib.hid hl
  have AG := Lib.hid ag
  have hmb : m < b := by omega
  have hbm : b ≤ m + 1 := by omega
  have t1 : ((m : Int) - (a : Int) == 1) = false := by simp; omega
  have t2 : ((b : Int) - (m : Int) == 1) = true := by simp; omega
  clear S hcmp tr hl ag
  have HM := Lib.hid hb1
  clear hb1
  go_enter Try.func40, Try.ntmps40
  go_wp2_with fail
  go_loopg [14, 15] (m - a) (fun kx s10 s11 wr => ∃ (i j : Nat), s10 = .int .i64 (i : Int) ∧ s11 = .int .i64 (j : Int) ∧ a ≤ i ∧ i ≤ j ∧ j ≤ m ∧ j - i ≤ kx ∧ Hid (i = a ∨ ltOf cf d[m]! d[i - 1]! = false) ∧ Hid (j = m ∨ ltOf cf d[m]! d[j]! = true) ∧ Hid (SWK enc k w0 blk off d wr))
  case atStart => exact ⟨a, m, rfl, rfl, Nat.le_refl _, by omega, Nat.le_refl _, Nat.le_refl _, Lib.hid (Or.inl rfl), Lib.hid (Or.inl rfl), S0⟩
  case round =>
    clear S0
    obtain ⟨i, j, rfl, rfl, hmi, hij, hjb, hkx, HI, HJ, S1⟩ := hrel
    by_cases hlt : i < j
    · have hltz : (i : Int) < (j : Int) := by omega
      obtain ⟨h, hh⟩ : ∃ h, h = (i + j) / 2 := ⟨_, rfl⟩
      have h1 : i ≤ h := by omega
      have h2 : h < j := by omega
      have e1 : ((i : Int) + (j : Int)) / 2 = (h : Int) := by omega
      clear hh
      cases hlv : ltOf cf d[m]! d[h]! with
      | true =>
        have eap : ((m : Int)).toNat = m := by omega
        have pap : (0 : Int) ≤ (m : Int) := by omega
        have bap : (m : Int) < (d.size : Int) := by omega
        have rap : IntKind.i64.wrap ((m : Int)) = (m : Int) := by rw [IntKind.wrap_i64]; omega
        have ecp : ((h : Int)).toNat = h := by omega
        have pcp : (0 : Int) ≤ (h : Int) := by omega
        have bcp : (h : Int) < (d.size : Int) := by omega
        have rcp : IntKind.i64.wrap ((h : Int)) = (h : Int) := by rw [IntKind.wrap_i64]; omega
        obtain ⟨xp, hxp⟩ : ∃ x, x = d[m]! := ⟨_, rfl⟩
        obtain ⟨yp, hyp⟩ : ∃ x, x = d[h]! := ⟨_, rfl⟩
        have lap := S1.out.ld R (by omega) Try.prog (m) (by omega)
        have lbp := S1.out.ld R (by omega) Try.prog (h) (by omega)
        rw [← hxp] at lap
        rw [← hyp] at lbp
        have hcp := S1.out.cmp HC.out (by omega) xp yp
        have hvp : cf xp yp < 0 := by rw [hxp, hyp]; exact of_decide_eq_true hlv
        have hdp : decide (cf xp yp < 0) = true := decide_eq_true hvp
        clear hxp hyp
        have HLV := Lib.hid hlv
        clear hlv
        go_wp2_with fail
        go_quiet_grown (first | (go_at_fn g; refine Calls.grown_of (hcp _ _)))
        go_wp2_with fail
        have S1n : Hid (SWK enc k w0 blk off d (grow (wr.drewN nq) osq)) := S1.out.grown nq osq
        clear lap lbp hcp S1
        generalize grow (wr.drewN nq) osq = w2 at S1n ⊢
        clear nq osq
        clear eap pap bap rap ecp pcp bcp rcp
        go_roundg (h - i)
        case measure => omega
        case rel => exact ⟨i, h, rfl, rfl, hmi, h1, by omega, Nat.le_refl _, HI, Lib.hid (Or.inr HLV.out), S1n⟩
      | false =>
        have eap : ((m : Int)).toNat = m := by omega
        have pap : (0 : Int) ≤ (m : Int) := by omega
        have bap : (m : Int) < (d.size : Int) := by omega
        have rap : IntKind.i64.wrap ((m : Int)) = (m : Int) := by rw [IntKind.wrap_i64]; omega
        have ecp : ((h : Int)).toNat = h := by omega
        have pcp : (0 : Int) ≤ (h : Int) := by omega
        have bcp : (h : Int) < (d.size : Int) := by omega
        have rcp : IntKind.i64.wrap ((h : Int)) = (h : Int) := by rw [IntKind.wrap_i64]; omega
        obtain ⟨xp, hxp⟩ : ∃ x, x = d[m]! := ⟨_, rfl⟩
        obtain ⟨yp, hyp⟩ : ∃ x, x = d[h]! := ⟨_, rfl⟩
        have lap := S1.out.ld R (by omega) Try.prog (m) (by omega)
        have lbp := S1.out.ld R (by omega) Try.prog (h) (by omega)
        rw [← hxp] at lap
        rw [← hyp] at lbp
        have hcp := S1.out.cmp HC.out (by omega) xp yp
        have hvp : ¬ cf xp yp < 0 := by rw [hxp, hyp]; exact of_decide_eq_false hlv
        have hdp : decide (cf xp yp < 0) = false := decide_eq_false hvp
        clear hxp hyp
        have HLV := Lib.hid hlv
        clear hlv
        go_wp2_with fail
        go_quiet_grown (first | (go_at_fn g; refine Calls.grown_of (hcp _ _)))
        go_wp2_with fail
        have S1n : Hid (SWK enc k w0 blk off d (grow (wr.drewN nq) osq)) := S1.out.grown nq osq
        clear lap lbp hcp S1
        generalize grow (wr.drewN nq) osq = w2 at S1n ⊢
        clear nq osq
        clear eap pap bap rap ecp pcp bcp rcp
        go_roundg (j - (h + 1))
        case measure => omega
        case rel => exact ⟨h + 1, j, by go_num, rfl, by omega, by omega, hjb, Nat.le_refl _, Lib.hid (Or.inr (by simpa using HLV.out)), HJ, S1n⟩
    · have hltz : ¬ (i : Int) < (j : Int) := by omega
      have HIJ : Hid (i = j) := by show i = j; omega
      go_wp2_with fail
      go_loopg [17] (m - i) (fun kx s13 wr => ∃ (q : Nat) (e : Array α), s13 = .int .i64 (q : Int) ∧ i ≤ q ∧ q ≤ m ∧ q - i ≤ kx ∧ Hid (Shl d e q m) ∧ Hid (SWK enc k w0 blk off e wr))
      case atStart => exact ⟨m, d, rfl, by omega, Nat.le_refl _, Nat.le_refl _, Lib.hid (Shl.start (by omega)), S1⟩
      case round =>
        clear S1
        obtain ⟨q, e, rfl, haq, hqi, hkq, SR, S2⟩ := hrel
        have zj : e.size = d.size := SR.out.size
        by_cases hql : i < q
        · obtain ⟨p, rfl⟩ : ∃ p, q = p + 1 := ⟨q - 1, by omega⟩
          have hqz : (i : Int) < (p : Int) + 1 := by omega
          go_wp2_with fail
          have eaq : (((p : Int) + 1)).toNat = p + 1 := by omega
          have paq : (0 : Int) ≤ ((p : Int) + 1) := by omega
          have baq : ((p : Int) + 1) < (d.size : Int) := by omega
          have raq : IntKind.i64.wrap (((p : Int) + 1)) = ((p : Int) + 1) := by rw [IntKind.wrap_i64]; omega
          have ecq : ((p : Int)).toNat = p := by omega
          have pcq : (0 : Int) ≤ (p : Int) := by omega
          have bcq : (p : Int) < (d.size : Int) := by omega
          have rcq : IntKind.i64.wrap ((p : Int)) = (p : Int) := by rw [IntKind.wrap_i64]; omega
          have S2n : Hid (SWK enc k w0 blk off (swp e (p + 1) (p)) ((wr.drew.setCells blk (off + (p + 1) * k) (enc e[p]!)).setCells blk (off + (p) * k) (enc e[p + 1]!))) := S2.out.swapped R (p + 1) (p) (by omega) (by omega)
          have laq := S2.out.ld1 R (by omega) Try.prog (p + 1) (by omega)
          have lbq := S2.out.ld1 R (by omega) Try.prog (p) (by omega)
          have saq := S2.out.st1 R (by omega) Try.prog (p + 1) (by omega) e[p]!
          have sbq := S2.out.st2 R (by omega) Try.prog (p + 1) (p) (by omega) (by omega) e[p]! e[p + 1]!
          have naq : (enc e[p + 1]!).length = k := R.hk _
          have nbq : (enc e[p]!).length = k := R.hk _
          generalize enc e[p + 1]! = cIq at S2n laq sbq naq
          generalize enc e[p]! = cJq at S2n lbq saq sbq nbq
          clear S2
          go_wp2_with fail
          go_big_region_o
          clear laq lbq saq sbq
          generalize (wr.drew.setCells blk (off + (p + 1) * k) cJq).setCells blk (off + (p) * k) cIq = w2 at S2n ⊢
          clear eaq paq baq raq ecq pcq bcq rcq
          go_wp2_with fail
          go_roundg (p - i)
          case measure => omega
          case rel => exact ⟨p, _, by first | rfl | go_num | (congr 1; omega), by omega, by omega, Nat.le_refl _, Lib.hid SR.out.step, S2n⟩
        · have hqz : ¬ (i : Int) < (q : Int) := by omega
          go_wp2_with fail
          refine bodyPost_ret (results_none rfl _ _ _) rfl ?_
          refine ⟨rfl, e, ?_, S2.out⟩
          obtain rfl := HM.out
          obtain rfl := HIJ.out
          obtain rfl : q = i := by omega
          exact mrg_last TR.out (by omega) hjb hb HL.out AG.out HI.out HJ.out SR.out.rot
end Go.Proofs.Ytinfjfjheimceaa.So
