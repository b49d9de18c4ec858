/- Package slices: symMergeCmpFunc at the shares of package split. -/
import Derived.Test.YtinfjfjheimceaaSoSym1
namespace Go.Proofs.Ytinfjfjheimceaa.So
open Go Go.Sort Go.RowKit Go.Lib
section
variable {α : Type} [Inhabited α] {c : α → α → Bool} {bf : α → α → Prop} {a s k e b : Nat} {d d2 : Array α}
theorem Parts.l0 (P : Parts c bf a s k e b d) (h : s ≤ a ∨ k ≤ s) : Mrg bf a k d d := ⟨permIn_refl _ _ _, P.as.join P.sk h⟩
theorem Parts.r1 (P : Parts c bf a s k e b d) (L : Mrg bf a k d d2) (he : k ≤ e) : Srt bf k e d2 ∧ Srt bf e b d2 ∧ Agr c bf k e b d2 :=
  ⟨P.ke.congr fun x h1 h2 => L.perm.2.1 x (Or.inr h1), P.eb.congr fun x h1 h2 => L.perm.2.1 x (Or.inr (by omega)), P.agr.congr fun x h1 h2 => L.perm.2.1 x (Or.inr h1)⟩
theorem Parts.r0 (P : Parts c bf a s k e b d) (L : Mrg bf a k d d2) (he : k ≤ e) (h : e ≤ k ∨ b ≤ e) : Mrg bf k b d2 d2 := ⟨permIn_refl _ _ _, (P.r1 L he).1.join (P.r1 L he).2.1 h⟩
end
theorem rot_c' {α : Type} [Inhabited α] (enc : α → List Value) (k : Nat) (hk3 : k = 3) (blk off cap a m b g sz : Nat) (A M B : Int) (hA : A = (a : Int)) (hM : M = (m : Int)) (hB : B = (b : Int)) (cb : Array Value) (d0 d : Array α) (w0 w : World) (R : RowK enc k w0 blk off d0) (hs : d0.size = d.size) (S : SWK enc k w0 blk off d w) (hz : sz = d.size) (ham : a < m) (hmb : m < b) (hb : b ≤ sz) (hsz : sz < 4611686018427387904) :
    Calls Try.prog 47 #[.slice (some ⟨blk, off, none⟩) sz cap, .int .i64 A, .int .i64 M, .int .i64 B, .func (.func g) #[] cb] w fun e w' => e = .returned (.tuple #[]) ∧ ∃ d', Hid (Rot d d' a m b) ∧ Hid (SWK enc k w0 blk off d' w') := by
  subst hA hM hB hz
  exact (rot_c enc k hk3 blk off cap a m b g cb d0 d w0 w R hs S ham hmb hb hsz).mono fun _ _ h => h
set_option maxHeartbeats 4000000 in
set_option maxRecDepth 1000000 in
theorem sym3a_c {α : Type} [Inhabited α] (enc : α → List Value) (k : Nat) (hk3 : k = 3) (cf : α → α → Int) (g : Nat) (cb : Array Value) (blk off cap : Nat) (a m b mid : Nat) (d0 d : Array α) (w0 w : World) (R : RowK enc k w0 blk off d0) (hs : d0.size = d.size) (S : SWK enc k w0 blk off d w) (eg : ∀ args w, (callFunc g args).run Try.prog w = .ok (.enter g args) w) (hcmp : CmpLays Try.prog g cb enc k cf blk off d0.size w0) (bf : α → α → Prop) (tr : ∀ x y z, bf x y → bf y z → bf x z) (hmid : mid = (a + b) / 2) (hside : mid < m) (ham : a + 1 < m) (hmb : m + 1 < b) (hb : b ≤ d.size) (hsz : d.size < 4611686018427387904) (hl : Srt bf a m d) (hr : Srt bf m b d) (ag : Agr (ltOf cf) bf a m b d)
    (ih : ∀ (a' m' b' : Nat) (A M B : Int) (d' : Array α) (w' : World), A = (a' : Int) → M = (m' : Int) → B = (b' : Int) → b' - a' < b - a → a' < m' → m' < b' → b' ≤ d.size → d'.size = d.size → SWK enc k w0 blk off d' w' → Srt bf a' m' d' → Srt bf m' b' d' → Agr (ltOf cf) bf a' m' b' d' →
      Calls Try.prog 40 #[.slice (some ⟨blk, off, none⟩) d.size cap, .int .i64 A, .int .i64 M, .int .i64 B, .func (.func g) #[] cb] w' fun e w'' => e = .returned (.tuple #[]) ∧ ∃ d'', Hid (Mrg bf a' b' d' d'') ∧ Hid (SWK enc k w0 blk off d'' w'')) :
    Calls Try.prog 40 #[.slice (some ⟨blk, off, none⟩) d.size cap, .int .i64 a, .int .i64 m, .int .i64 b, .func (.func g) #[] cb] w fun e w' => e = .returned (.tuple #[]) ∧ ∃ d', Mrg bf a b d d' ∧ SWK enc k w0 blk off d' w' := by
  have mixed : Try.prog.follows .mixedOrders = true := by kernel_rfl
  have aE : ∀ w, (isAgg 44).run Try.prog w = .ok true w := fun _ => by kernel_rfl
  have zE : ∀ w, (Go.sizeOf 44).run Try.prog w = .ok k w := fun _ => by subst hk3; kernel_rfl
  have HK3 : Hid (k = 3) := hk3
  clear hk3
  have S0 : Hid (SWK enc k w0 blk off d w) := S
  have HC : Hid (CmpLays Try.prog g cb enc k cf blk off d0.size w0) := hcmp
  have TR := Lib.hid tr
  have HL := Lib.hid hl
  have HR := Lib.hid hr
  have AG := Lib.hid ag
  have IH := Lib.hid ih
  have t1 : ((m : Int) - (a : Int) == 1) = false := by simp; omega
  have t2 : ((b : Int) - (m : Int) == 1) = false := by simp; omega
  have e0 : ((a : Int) + (b : Int)) / 2 = (mid : Int) := by omega
  have g1 : a < mid := by omega
  have g2 : mid < b := by omega
  have g3 : 2 * mid ≤ a + b := by omega
  have g4 : a + b ≤ 2 * mid + 1 := by omega
  have g5 : (mid : Int) < (m : Int) := by omega
  skip
  clear S hcmp tr hl hr ag ih hmid
  go_enter Try.func40, Try.ntmps40
  go_wp2_with fail
  go_loopg [20, 21] (b - a) (fun kx s20 s21 wr => ∃ (i j : Nat), s20 = .int .i64 (i : Int) ∧ s21 = .int .i64 (j : Int) ∧ (mid + m - b) ≤ i ∧ i ≤ j ∧ j ≤ mid ∧ j - i ≤ kx ∧ Hid (i = (mid + m - b) ∨ ltOf cf d[mid + m - i]! d[i - 1]! = false) ∧ Hid (j = mid ∨ ltOf cf d[mid + m - 1 - j]! d[j]! = true) ∧ Hid (SWK enc k w0 blk off d wr))
  case atStart => exact ⟨(mid + m - b), mid, by first | rfl | (congr 1; omega), by first | rfl | (congr 1; omega), Nat.le_refl _, by omega, Nat.le_refl _, by omega, Lib.hid (Or.inl rfl), Lib.hid (Or.inl rfl), S0⟩
  case round =>
    clear S0
    obtain ⟨i, j, rfl, rfl, hmi, hij, hjb, hkx, HI, HJ, S1⟩ := hrel
    by_cases hlt : i < j
    · have hltz : (i : Int) < (j : Int) := by omega
      obtain ⟨h, hh⟩ : ∃ h, h = (i + j) / 2 := ⟨_, rfl⟩
      have h1 : i ≤ h := by omega
      have h2 : h < j := by omega
      have e1 : ((i : Int) + (j : Int)) / 2 = (h : Int) := by omega
      clear hh
      obtain ⟨z, hx⟩ : ∃ z, z = mid + m - 1 - h := ⟨_, rfl⟩
      have wx : IntKind.i64.wrap ((mid : Int) + (m : Int) - 1 - (h : Int)) = (z : Int) := by rw [IntKind.wrap_i64]; omega
      have xs : z < d.size := by omega
      have HX := Lib.hid hx
      clear hx
      cases hlv : ltOf cf d[z]! d[h]! with
      | true =>
        have eap : ((z : Int)).toNat = z := by omega
        have pap : (0 : Int) ≤ (z : Int) := by omega
        have bap : (z : Int) < (d.size : Int) := by omega
        have rap : IntKind.i64.wrap ((z : Int)) = (z : Int) := by rw [IntKind.wrap_i64]; omega
        have ecp : ((h : Int)).toNat = h := by omega
        have pcp : (0 : Int) ≤ (h : Int) := by omega
        have bcp : (h : Int) < (d.size : Int) := by omega
        have rcp : IntKind.i64.wrap ((h : Int)) = (h : Int) := by rw [IntKind.wrap_i64]; omega
        obtain ⟨xp, hxp⟩ : ∃ x, x = d[z]! := ⟨_, rfl⟩
        obtain ⟨yp, hyp⟩ : ∃ x, x = d[h]! := ⟨_, rfl⟩
        have lap := S1.out.ld R (by omega) Try.prog (z) (by omega)
        have lbp := S1.out.ld R (by omega) Try.prog (h) (by omega)
        rw [← hxp] at lap
        rw [← hyp] at lbp
        have hcp := S1.out.cmp HC.out (by omega) xp yp
        have hvp : cf xp yp < 0 := by rw [hxp, hyp]; exact of_decide_eq_true hlv
        have hdp : decide (cf xp yp < 0) = true := decide_eq_true hvp
        clear hxp hyp
        have HLV := Lib.hid hlv
        clear hlv
        go_wp2_with fail
        go_quiet_grown (first | (go_at_fn g; refine Calls.grown_of (hcp _ _)))
        go_wp2_with fail
        have S1n : Hid (SWK enc k w0 blk off d (grow (wr.drewN nq) osq)) := S1.out.grown nq osq
        clear lap lbp hcp S1
        generalize grow (wr.drewN nq) osq = w2 at S1n ⊢
        clear nq osq
        clear eap pap bap rap ecp pcp bcp rcp
        go_roundg (h - i)
        case measure => omega
        case rel => exact ⟨i, h, rfl, rfl, hmi, h1, by omega, Nat.le_refl _, HI, Lib.hid (Or.inr (by have := HLV.out; rwa [HX.out] at this)), S1n⟩
      | false =>
        have eap : ((z : Int)).toNat = z := by omega
        have pap : (0 : Int) ≤ (z : Int) := by omega
        have bap : (z : Int) < (d.size : Int) := by omega
        have rap : IntKind.i64.wrap ((z : Int)) = (z : Int) := by rw [IntKind.wrap_i64]; omega
        have ecp : ((h : Int)).toNat = h := by omega
        have pcp : (0 : Int) ≤ (h : Int) := by omega
        have bcp : (h : Int) < (d.size : Int) := by omega
        have rcp : IntKind.i64.wrap ((h : Int)) = (h : Int) := by rw [IntKind.wrap_i64]; omega
        obtain ⟨xp, hxp⟩ : ∃ x, x = d[z]! := ⟨_, rfl⟩
        obtain ⟨yp, hyp⟩ : ∃ x, x = d[h]! := ⟨_, rfl⟩
        have lap := S1.out.ld R (by omega) Try.prog (z) (by omega)
        have lbp := S1.out.ld R (by omega) Try.prog (h) (by omega)
        rw [← hxp] at lap
        rw [← hyp] at lbp
        have hcp := S1.out.cmp HC.out (by omega) xp yp
        have hvp : ¬ cf xp yp < 0 := by rw [hxp, hyp]; exact of_decide_eq_false hlv
        have hdp : decide (cf xp yp < 0) = false := decide_eq_false hvp
        clear hxp hyp
        have HLV := Lib.hid hlv
        clear hlv
        go_wp2_with fail
        go_quiet_grown (first | (go_at_fn g; refine Calls.grown_of (hcp _ _)))
        go_wp2_with fail
        have S1n : Hid (SWK enc k w0 blk off d (grow (wr.drewN nq) osq)) := S1.out.grown nq osq
        clear lap lbp hcp S1
        generalize grow (wr.drewN nq) osq = w2 at S1n ⊢
        clear nq osq
        clear eap pap bap rap ecp pcp bcp rcp
        go_roundg (j - (h + 1))
        case measure => omega
        case rel => exact ⟨h + 1, j, by go_num, rfl, by omega, by omega, hjb, Nat.le_refl _, Lib.hid (Or.inr (by have := HLV.out; rwa [HX.out, show mid + m - 1 - h = mid + m - (h + 1) by omega] at this)), HJ, S1n⟩
    · have hltz : ¬ (i : Int) < (j : Int) := by omega
      obtain rfl : i = j := by omega
      clear hij hkx
      obtain ⟨e, he⟩ : ∃ e, e = mid + m - i := ⟨_, rfl⟩
      have q1 : i ≤ m := by omega
      have q2 : i ≤ mid := by omega
      have q3 : a ≤ i := by omega
      have q4 : e ≤ b := by omega
      have q5 : m ≤ e := by omega
      have q6 : mid ≤ e := by omega
      have q7 : Hid (mid = i + (e - m)) := by show mid = i + (e - m); omega
      have H1 : Hid (i = a ∨ e = b ∨ ltOf cf d[e]! d[i - 1]! = false) := by
        rcases HI.out with h | h
        · first | exact Or.inl h | exact Or.inr (Or.inl (by omega))
        · exact Or.inr (Or.inr (by rw [he]; exact h))
      have H2 : Hid (i = m ∨ e = m ∨ ltOf cf d[e - 1]! d[i]! = true) := by
        rcases HJ.out with h | h
        · first | exact Or.inl h | exact Or.inr (Or.inl (by omega))
        · exact Or.inr (Or.inr (by rw [he, show mid + m - i - 1 = mid + m - 1 - i by omega]; exact h))
      have HE : Hid (((mid : Int) + (m : Int) - (i : Int)) = (e : Int)) := by show ((mid : Int) + (m : Int) - (i : Int)) = (e : Int); omega
      have ez1 : (e : Int) ≤ (mid : Int) + (m : Int) - (i : Int) := by omega
      have ez2 : (mid : Int) + (m : Int) - (i : Int) ≤ (e : Int) := by omega
      have PP : ∀ d1, Rot d d1 i m e → Parts (ltOf cf) bf a i mid e b d1 := fun d1 R1 => by
        have := parts TR.out q3 q1 q5 q4 HL.out HR.out AG.out H1.out H2.out R1
        rwa [← q7.out] at this
      have PH := Lib.hid PP
      clear PP he HI HJ HL HR AG H1 H2
      by_cases cr : i < m ∧ i < mid
      · obtain ⟨cr1, cr2⟩ := cr
        have u1 : (i : Int) < (m : Int) := by omega
        have u2 : (m : Int) < (mid : Int) + (m : Int) - (i : Int) := by omega
        have u3 : (mid : Int) < (mid : Int) + (m : Int) - (i : Int) := by omega
        have u4 : (i : Int) < (mid : Int) := by omega
        go_wp2_with fail
        refine (rot_c' enc k HK3.out blk off cap i m e g d.size _ _ _ rfl rfl HE.out cb d0 d w0 _ R hs S1.out rfl cr1 (by omega) (by omega) hsz).mono ?_
        rintro e' w' ⟨rfl, d1, RT, S2⟩
        clear S1
        have P := Lib.hid (PH.out d1 RT.out)
        have z1 := RT.out.size
        by_cases cl : a < i
        · have v1 : (a : Int) < (i : Int) := by omega
          go_wp2_with fail
          refine (IH.out a i mid _ _ _ d1 _ rfl rfl rfl (by omega) cl cr2 (by omega) z1 S2.out P.out.as P.out.sk P.out.agl).mono ?_
          rintro e' w' ⟨rfl, d2, M2, S3⟩
          clear S2
          have z2 := M2.out.size
          by_cases ce : e < b
          · have v2 : (mid : Int) + (m : Int) - (i : Int) < (b : Int) := by omega
            go_wp2_with fail
            have T := P.out.r1 M2.out q6
            have TH := Lib.hid T
            clear T
            refine (IH.out mid e b _ _ _ d2 _ rfl HE.out rfl (by omega) (by omega) ce hb (by omega) S3.out TH.out.1 TH.out.2.1 TH.out.2.2).mono ?_
            rintro e' w' ⟨rfl, d3, M3, S4⟩
            go_wp2_with fail
            go_end0
            exact ⟨rfl, d3, Mrg.after RT.out q3 q4 hb (P.out.all (by omega) (by omega) (by omega) M2.out M3.out), S4.out⟩
          · have v2 : ¬ (mid : Int) + (m : Int) - (i : Int) < (b : Int) := by omega
            go_wp2_with fail
            go_end0
            exact ⟨rfl, d2, Mrg.after RT.out q3 q4 hb (P.out.all (by omega) (by omega) (by omega) M2.out (P.out.r0 M2.out q6 (Or.inr (by omega)))), S3.out⟩
        · have v1 : ¬ (a : Int) < (i : Int) := by omega
          have v1' : decide ((a : Int) < (i : Int)) = false := decide_eq_false v1
          have M2 : Hid (Mrg bf a mid d1 d1) := P.out.l0 (Or.inl (by omega))
          by_cases ce : e < b
          · have v2 : (mid : Int) + (m : Int) - (i : Int) < (b : Int) := by omega
            go_wp2_with fail
            have T := P.out.r1 M2.out q6
            have TH := Lib.hid T
            clear T
            refine (IH.out mid e b _ _ _ d1 _ rfl HE.out rfl (by omega) (by omega) ce hb (by omega) S2.out TH.out.1 TH.out.2.1 TH.out.2.2).mono ?_
            rintro e' w' ⟨rfl, d3, M3, S4⟩
            go_wp2_with fail
            go_end0
            exact ⟨rfl, d3, Mrg.after RT.out q3 q4 hb (P.out.all (by omega) (by omega) (by omega) M2.out M3.out), S4.out⟩
          · have v2 : ¬ (mid : Int) + (m : Int) - (i : Int) < (b : Int) := by omega
            go_wp2_with fail
            go_end0
            exact ⟨rfl, d1, Mrg.after RT.out q3 q4 hb (P.out.all (by omega) (by omega) (by omega) M2.out (P.out.r0 M2.out q6 (Or.inr (by omega)))), S2.out⟩
      · have RT : Hid (Rot d d i m e) := Rot.none (by omega) (by omega)
        have P := Lib.hid (PH.out d RT.out)
        by_cases cl : a < i ∧ i < mid
        · obtain ⟨cl1, cl2⟩ := cl
          have v1 : (a : Int) < (i : Int) := by omega
          have v3 : (i : Int) < (mid : Int) := by omega
          have im : i = m := by omega
          have u1 : ¬ (i : Int) < (m : Int) := by omega
          have u1' : decide ((i : Int) < (m : Int)) = false := decide_eq_false u1
          have u3 : ¬ (mid : Int) < (mid : Int) + (m : Int) - (i : Int) := by omega
          have u3' : decide ((mid : Int) < (mid : Int) + (m : Int) - (i : Int)) = false := decide_eq_false u3
          have em : e ≤ mid := by omega
          clear im
          go_wp2_with fail
          refine (IH.out a i mid _ _ _ d _ rfl rfl rfl (by omega) cl1 cl2 (by omega) rfl S1.out P.out.as P.out.sk P.out.agl).mono ?_
          rintro e' w' ⟨rfl, d2, M2, S3⟩
          clear S1
          have z2 := M2.out.size
          go_wp2_with fail
          go_end0
          exact ⟨rfl, d2, Mrg.after RT.out q3 q4 hb (P.out.all (by omega) (by omega) (by omega) M2.out (P.out.r0 M2.out q6 (Or.inl em))), S3.out⟩
        · have M2 : Hid (Mrg bf a mid d d) := P.out.l0 (by omega)
          by_cases ce : mid < e ∧ e < b
          · obtain ⟨ce1, ce2⟩ := ce
            have im : i = mid := by omega
            have v1 : ¬ (i : Int) < (mid : Int) := by omega
            have v2 : (mid : Int) + (m : Int) - (i : Int) < (b : Int) := by omega
            have u1 : (i : Int) < (m : Int) := by omega
            have u2 : ¬ (m : Int) < (mid : Int) + (m : Int) - (i : Int) := by omega
            have u3 : (mid : Int) < (mid : Int) + (m : Int) - (i : Int) := by omega
            have v3 : (a : Int) < (i : Int) := by omega
            clear im
            go_wp2_with fail
            have T := P.out.r1 M2.out q6
            have TH := Lib.hid T
            clear T
            refine (IH.out mid e b _ _ _ d _ rfl HE.out rfl (by omega) (by omega) ce2 hb rfl S1.out TH.out.1 TH.out.2.1 TH.out.2.2).mono ?_
            rintro e' w' ⟨rfl, d3, M3, S4⟩
            go_wp2_with fail
            go_end0
            exact ⟨rfl, d3, Mrg.after RT.out q3 q4 hb (P.out.all (by omega) (by omega) (by omega) M2.out M3.out), S4.out⟩
          · have H : Hid (Mrg bf a b d d) := Mrg.after RT.out q3 q4 hb (P.out.all (by omega) (by omega) (by omega) M2.out (P.out.r0 M2.out q6 (by omega)))
            by_cases w1 : i < m
            · have u1 : (i : Int) < (m : Int) := by omega
              have im : i = mid := by omega
              have v1 : ¬ (i : Int) < (mid : Int) := by omega
              have u2 : ¬ (m : Int) < (mid : Int) + (m : Int) - (i : Int) := by omega
              have v3 : (a : Int) < (i : Int) := by omega
              have u3 : (mid : Int) < (mid : Int) + (m : Int) - (i : Int) := by omega
              have v2 : ¬ (mid : Int) + (m : Int) - (i : Int) < (b : Int) := by omega
              clear im
              go_wp2_with fail
              go_end0
              exact ⟨rfl, d, H.out, S1.out⟩
            · have u1 : ¬ (i : Int) < (m : Int) := by omega
              have u1' : decide ((i : Int) < (m : Int)) = false := decide_eq_false u1
              have u3 : ¬ (mid : Int) < (mid : Int) + (m : Int) - (i : Int) := by omega
              have u3' : decide ((mid : Int) < (mid : Int) + (m : Int) - (i : Int)) = false := decide_eq_false u3
              have v3 : (a : Int) < (i : Int) := by omega
              have v1 : ¬ (i : Int) < (mid : Int) := by omega
              go_wp2_with fail
              go_end0
              exact ⟨rfl, d, H.out, S1.out⟩
set_option maxHeartbeats 4000000 in
set_option maxRecDepth 1000000 in
theorem sym3b_c {α : Type} [Inhabited α] (enc : α → List Value) (k : Nat) (hk3 : k = 3) (cf : α → α → Int) (g : Nat) (cb : Array Value) (blk off cap : Nat) (a m b mid : Nat) (d0 d : Array α) (w0 w : World) (R : RowK enc k w0 blk off d0) (hs : d0.size = d.size) (S : SWK enc k w0 blk off d w) (eg : ∀ args w, (callFunc g args).run Try.prog w = .ok (.enter g args) w) (hcmp : CmpLays Try.prog g cb enc k cf blk off d0.size w0) (bf : α → α → Prop) (tr : ∀ x y z, bf x y → bf y z → bf x z) (hmid : mid = (a + b) / 2) (hside : m ≤ mid) (ham : a + 1 < m) (hmb : m + 1 < b) (hb : b ≤ d.size) (hsz : d.size < 4611686018427387904) (hl : Srt bf a m d) (hr : Srt bf m b d) (ag : Agr (ltOf cf) bf a m b d)
    (ih : ∀ (a' m' b' : Nat) (A M B : Int) (d' : Array α) (w' : World), A = (a' : Int) → M = (m' : Int) → B = (b' : Int) → b' - a' < b - a → a' < m' → m' < b' → b' ≤ d.size → d'.size = d.size → SWK enc k w0 blk off d' w' → Srt bf a' m' d' → Srt bf m' b' d' → Agr (ltOf cf) bf a' m' b' d' →
      Calls Try.prog 40 #[.slice (some ⟨blk, off, none⟩) d.size cap, .int .i64 A, .int .i64 M, .int .i64 B, .func (.func g) #[] cb] w' fun e w'' => e = .returned (.tuple #[]) ∧ ∃ d'', Hid (Mrg bf a' b' d' d'') ∧ Hid (SWK enc k w0 blk off d'' w'')) :
    Calls Try.prog 40 #[.slice (some ⟨blk, off, none⟩) d.size cap, .int .i64 a, .int .i64 m, .int .i64 b, .func (.func g) #[] cb] w fun e w' => e = .returned (.tuple #[]) ∧ ∃ d', Mrg bf a b d d' ∧ SWK enc k w0 blk off d' w' := by
  have mixed : Try.prog.follows .mixedOrders = true := by kernel_rfl
  have aE : ∀ w, (isAgg 44).run Try.prog w = .ok true w := fun _ => by kernel_rfl
  have zE : ∀ w, (Go.sizeOf 44).run Try.prog w = .ok k w := fun _ => by subst hk3; kernel_rfl
  have HK3 : Hid (k = 3) := hk3
  clear hk3
  have S0 : Hid (SWK enc k w0 blk off d w) := S
  have HC : Hid (CmpLays Try.prog g cb enc k cf blk off d0.size w0) := hcmp
  have TR := Lib.hid tr
  have HL := Lib.hid hl
  have HR := Lib.hid hr
  have AG := Lib.hid ag
  have IH := Lib.hid ih
  have t1 : ((m : Int) - (a : Int) == 1) = false := by simp; omega
  have t2 : ((b : Int) - (m : Int) == 1) = false := by simp; omega
  have e0 : ((a : Int) + (b : Int)) / 2 = (mid : Int) := by omega
  have g1 : a < mid := by omega
  have g2 : mid < b := by omega
  have g3 : 2 * mid ≤ a + b := by omega
  have g4 : a + b ≤ 2 * mid + 1 := by omega
  have g5 : ¬ (mid : Int) < (m : Int) := by omega
  have g6 : decide ((mid : Int) < (m : Int)) = false := decide_eq_false g5
  clear S hcmp tr hl hr ag ih hmid
  go_enter Try.func40, Try.ntmps40
  go_wp2_with fail
  go_loopg [20, 21] (b - a) (fun kx s20 s21 wr => ∃ (i j : Nat), s20 = .int .i64 (i : Int) ∧ s21 = .int .i64 (j : Int) ∧ a ≤ i ∧ i ≤ j ∧ j ≤ m ∧ j - i ≤ kx ∧ Hid (i = a ∨ ltOf cf d[mid + m - i]! d[i - 1]! = false) ∧ Hid (j = m ∨ ltOf cf d[mid + m - 1 - j]! d[j]! = true) ∧ Hid (SWK enc k w0 blk off d wr))
  case atStart => exact ⟨a, m, by first | rfl | (congr 1; omega), by first | rfl | (congr 1; omega), Nat.le_refl _, by omega, Nat.le_refl _, by omega, Lib.hid (Or.inl rfl), Lib.hid (Or.inl rfl), S0⟩
  case round =>
    clear S0
    obtain ⟨i, j, rfl, rfl, hmi, hij, hjb, hkx, HI, HJ, S1⟩ := hrel
    by_cases hlt : i < j
    · have hltz : (i : Int) < (j : Int) := by omega
      obtain ⟨h, hh⟩ : ∃ h, h = (i + j) / 2 := ⟨_, rfl⟩
      have h1 : i ≤ h := by omega
      have h2 : h < j := by omega
      have e1 : ((i : Int) + (j : Int)) / 2 = (h : Int) := by omega
      clear hh
      obtain ⟨z, hx⟩ : ∃ z, z = mid + m - 1 - h := ⟨_, rfl⟩
      have wx : IntKind.i64.wrap ((mid : Int) + (m : Int) - 1 - (h : Int)) = (z : Int) := by rw [IntKind.wrap_i64]; omega
      have xs : z < d.size := by omega
      have HX := Lib.hid hx
      clear hx
      cases hlv : ltOf cf d[z]! d[h]! with
      | true =>
        have eap : ((z : Int)).toNat = z := by omega
        have pap : (0 : Int) ≤ (z : Int) := by omega
        have bap : (z : Int) < (d.size : Int) := by omega
        have rap : IntKind.i64.wrap ((z : Int)) = (z : Int) := by rw [IntKind.wrap_i64]; omega
        have ecp : ((h : Int)).toNat = h := by omega
        have pcp : (0 : Int) ≤ (h : Int) := by omega
        have bcp : (h : Int) < (d.size : Int) := by omega
        have rcp : IntKind.i64.wrap ((h : Int)) = (h : Int) := by rw [IntKind.wrap_i64]; omega
        obtain ⟨xp, hxp⟩ : ∃ x, x = d[z]! := ⟨_, rfl⟩
        obtain ⟨yp, hyp⟩ : ∃ x, x = d[h]! := ⟨_, rfl⟩
        have lap := S1.out.ld R (by omega) Try.prog (z) (by omega)
        have lbp := S1.out.ld R (by omega) Try.prog (h) (by omega)
        rw [← hxp] at lap
        rw [← hyp] at lbp
        have hcp := S1.out.cmp HC.out (by omega) xp yp
        have hvp : cf xp yp < 0 := by rw [hxp, hyp]; exact of_decide_eq_true hlv
        have hdp : decide (cf xp yp < 0) = true := decide_eq_true hvp
        clear hxp hyp
        have HLV := Lib.hid hlv
        clear hlv
        go_wp2_with fail
        go_quiet_grown (first | (go_at_fn g; refine Calls.grown_of (hcp _ _)))
        go_wp2_with fail
        have S1n : Hid (SWK enc k w0 blk off d (grow (wr.drewN nq) osq)) := S1.out.grown nq osq
        clear lap lbp hcp S1
        generalize grow (wr.drewN nq) osq = w2 at S1n ⊢
        clear nq osq
        clear eap pap bap rap ecp pcp bcp rcp
        go_roundg (h - i)
        case measure => omega
        case rel => exact ⟨i, h, rfl, rfl, hmi, h1, by omega, Nat.le_refl _, HI, Lib.hid (Or.inr (by have := HLV.out; rwa [HX.out] at this)), S1n⟩
      | false =>
        have eap : ((z : Int)).toNat = z := by omega
        have pap : (0 : Int) ≤ (z : Int) := by omega
        have bap : (z : Int) < (d.size : Int) := by omega
        have rap : IntKind.i64.wrap ((z : Int)) = (z : Int) := by rw [IntKind.wrap_i64]; omega
        have ecp : ((h : Int)).toNat = h := by omega
        have pcp : (0 : Int) ≤ (h : Int) := by omega
        have bcp : (h : Int) < (d.size : Int) := by omega
        have rcp : IntKind.i64.wrap ((h : Int)) = (h : Int) := by rw [IntKind.wrap_i64]; omega
        obtain ⟨xp, hxp⟩ : ∃ x, x = d[z]! := ⟨_, rfl⟩
        obtain ⟨yp, hyp⟩ : ∃ x, x = d[h]! := ⟨_, rfl⟩
        have lap := S1.out.ld R (by omega) Try.prog (z) (by omega)
        have lbp := S1.out.ld R (by omega) Try.prog (h) (by omega)
        rw [← hxp] at lap
        rw [← hyp] at lbp
        have hcp := S1.out.cmp HC.out (by omega) xp yp
        have hvp : ¬ cf xp yp < 0 := by rw [hxp, hyp]; exact of_decide_eq_false hlv
        have hdp : decide (cf xp yp < 0) = false := decide_eq_false hvp
        clear hxp hyp
        have HLV := Lib.hid hlv
        clear hlv
        go_wp2_with fail
        go_quiet_grown (first | (go_at_fn g; refine Calls.grown_of (hcp _ _)))
        go_wp2_with fail
        have S1n : Hid (SWK enc k w0 blk off d (grow (wr.drewN nq) osq)) := S1.out.grown nq osq
        clear lap lbp hcp S1
        generalize grow (wr.drewN nq) osq = w2 at S1n ⊢
        clear nq osq
        clear eap pap bap rap ecp pcp bcp rcp
        go_roundg (j - (h + 1))
        case measure => omega
        case rel => exact ⟨h + 1, j, by go_num, rfl, by omega, by omega, hjb, Nat.le_refl _, Lib.hid (Or.inr (by have := HLV.out; rwa [HX.out, show mid + m - 1 - h = mid + m - (h + 1) by omega] at this)), HJ, S1n⟩
    · have hltz : ¬ (i : Int) < (j : Int) := by omega
      obtain rfl : i = j := by omega
      clear hij hkx
      obtain ⟨e, he⟩ : ∃ e, e = mid + m - i := ⟨_, rfl⟩
      have q1 : i ≤ m := by omega
      have q2 : i ≤ mid := by omega
      have q3 : a ≤ i := by omega
      have q4 : e ≤ b := by omega
      have q5 : m ≤ e := by omega
      have q6 : mid ≤ e := by omega
      have q7 : Hid (mid = i + (e - m)) := by show mid = i + (e - m); omega
      have H1 : Hid (i = a ∨ e = b ∨ ltOf cf d[e]! d[i - 1]! = false) := by
        rcases HI.out with h | h
        · first | exact Or.inl h | exact Or.inr (Or.inl (by omega))
        · exact Or.inr (Or.inr (by rw [he]; exact h))
      have H2 : Hid (i = m ∨ e = m ∨ ltOf cf d[e - 1]! d[i]! = true) := by
        rcases HJ.out with h | h
        · first | exact Or.inl h | exact Or.inr (Or.inl (by omega))
        · exact Or.inr (Or.inr (by rw [he, show mid + m - i - 1 = mid + m - 1 - i by omega]; exact h))
      have HE : Hid (((mid : Int) + (m : Int) - (i : Int)) = (e : Int)) := by show ((mid : Int) + (m : Int) - (i : Int)) = (e : Int); omega
      have ez1 : (e : Int) ≤ (mid : Int) + (m : Int) - (i : Int) := by omega
      have ez2 : (mid : Int) + (m : Int) - (i : Int) ≤ (e : Int) := by omega
      have PP : ∀ d1, Rot d d1 i m e → Parts (ltOf cf) bf a i mid e b d1 := fun d1 R1 => by
        have := parts TR.out q3 q1 q5 q4 HL.out HR.out AG.out H1.out H2.out R1
        rwa [← q7.out] at this
      have PH := Lib.hid PP
      clear PP he HI HJ HL HR AG H1 H2
      by_cases cr : i < m ∧ i < mid
      · obtain ⟨cr1, cr2⟩ := cr
        have u1 : (i : Int) < (m : Int) := by omega
        have u2 : (m : Int) < (mid : Int) + (m : Int) - (i : Int) := by omega
        have u3 : (mid : Int) < (mid : Int) + (m : Int) - (i : Int) := by omega
        have u4 : (i : Int) < (mid : Int) := by omega
        go_wp2_with fail
        refine (rot_c' enc k HK3.out blk off cap i m e g d.size _ _ _ rfl rfl HE.out cb d0 d w0 _ R hs S1.out rfl cr1 (by omega) (by omega) hsz).mono ?_
        rintro e' w' ⟨rfl, d1, RT, S2⟩
        clear S1
        have P := Lib.hid (PH.out d1 RT.out)
        have z1 := RT.out.size
        by_cases cl : a < i
        · have v1 : (a : Int) < (i : Int) := by omega
          go_wp2_with fail
          refine (IH.out a i mid _ _ _ d1 _ rfl rfl rfl (by omega) cl cr2 (by omega) z1 S2.out P.out.as P.out.sk P.out.agl).mono ?_
          rintro e' w' ⟨rfl, d2, M2, S3⟩
          clear S2
          have z2 := M2.out.size
          by_cases ce : e < b
          · have v2 : (mid : Int) + (m : Int) - (i : Int) < (b : Int) := by omega
            go_wp2_with fail
            have T := P.out.r1 M2.out q6
            have TH := Lib.hid T
            clear T
            refine (IH.out mid e b _ _ _ d2 _ rfl HE.out rfl (by omega) (by omega) ce hb (by omega) S3.out TH.out.1 TH.out.2.1 TH.out.2.2).mono ?_
            rintro e' w' ⟨rfl, d3, M3, S4⟩
            go_wp2_with fail
            go_end0
            exact ⟨rfl, d3, Mrg.after RT.out q3 q4 hb (P.out.all (by omega) (by omega) (by omega) M2.out M3.out), S4.out⟩
          · exfalso; omega
        · have v1 : ¬ (a : Int) < (i : Int) := by omega
          have v1' : decide ((a : Int) < (i : Int)) = false := decide_eq_false v1
          have M2 : Hid (Mrg bf a mid d1 d1) := P.out.l0 (Or.inl (by omega))
          by_cases ce : e < b
          · have v2 : (mid : Int) + (m : Int) - (i : Int) < (b : Int) := by omega
            go_wp2_with fail
            have T := P.out.r1 M2.out q6
            have TH := Lib.hid T
            clear T
            refine (IH.out mid e b _ _ _ d1 _ rfl HE.out rfl (by omega) (by omega) ce hb (by omega) S2.out TH.out.1 TH.out.2.1 TH.out.2.2).mono ?_
            rintro e' w' ⟨rfl, d3, M3, S4⟩
            go_wp2_with fail
            go_end0
            exact ⟨rfl, d3, Mrg.after RT.out q3 q4 hb (P.out.all (by omega) (by omega) (by omega) M2.out M3.out), S4.out⟩
          · have v2 : ¬ (mid : Int) + (m : Int) - (i : Int) < (b : Int) := by omega
            go_wp2_with fail
            go_end0
            exact ⟨rfl, d1, Mrg.after RT.out q3 q4 hb (P.out.all (by omega) (by omega) (by omega) M2.out (P.out.r0 M2.out q6 (Or.inr (by omega)))), S2.out⟩
      · have RT : Hid (Rot d d i m e) := Rot.none (by omega) (by omega)
        have P := Lib.hid (PH.out d RT.out)
        by_cases cl : a < i ∧ i < mid
        · obtain ⟨cl1, cl2⟩ := cl
          have v1 : (a : Int) < (i : Int) := by omega
          have v3 : (i : Int) < (mid : Int) := by omega
          have im : i = m := by omega
          have u1 : ¬ (i : Int) < (m : Int) := by omega
          have u1' : decide ((i : Int) < (m : Int)) = false := decide_eq_false u1
          have u3 : ¬ (mid : Int) < (mid : Int) + (m : Int) - (i : Int) := by omega
          have u3' : decide ((mid : Int) < (mid : Int) + (m : Int) - (i : Int)) = false := decide_eq_false u3
          have em : e ≤ mid := by omega
          clear im
          go_wp2_with fail
          refine (IH.out a i mid _ _ _ d _ rfl rfl rfl (by omega) cl1 cl2 (by omega) rfl S1.out P.out.as P.out.sk P.out.agl).mono ?_
          rintro e' w' ⟨rfl, d2, M2, S3⟩
          clear S1
          have z2 := M2.out.size
          go_wp2_with fail
          go_end0
          exact ⟨rfl, d2, Mrg.after RT.out q3 q4 hb (P.out.all (by omega) (by omega) (by omega) M2.out (P.out.r0 M2.out q6 (Or.inl em))), S3.out⟩
        · have M2 : Hid (Mrg bf a mid d d) := P.out.l0 (by omega)
          by_cases ce : mid < e ∧ e < b
          · obtain ⟨ce1, ce2⟩ := ce
            have im : i = mid := by omega
            have v1 : ¬ (i : Int) < (mid : Int) := by omega
            have v2 : (mid : Int) + (m : Int) - (i : Int) < (b : Int) := by omega
            have u1 : (i : Int) < (m : Int) := by omega
            have u2 : ¬ (m : Int) < (mid : Int) + (m : Int) - (i : Int) := by omega
            have u3 : (mid : Int) < (mid : Int) + (m : Int) - (i : Int) := by omega
            have v3 : (a : Int) < (i : Int) := by omega
            clear im
            go_wp2_with fail
            have T := P.out.r1 M2.out q6
            have TH := Lib.hid T
            clear T
            refine (IH.out mid e b _ _ _ d _ rfl HE.out rfl (by omega) (by omega) ce2 hb rfl S1.out TH.out.1 TH.out.2.1 TH.out.2.2).mono ?_
            rintro e' w' ⟨rfl, d3, M3, S4⟩
            go_wp2_with fail
            go_end0
            exact ⟨rfl, d3, Mrg.after RT.out q3 q4 hb (P.out.all (by omega) (by omega) (by omega) M2.out M3.out), S4.out⟩
          · have H : Hid (Mrg bf a b d d) := Mrg.after RT.out q3 q4 hb (P.out.all (by omega) (by omega) (by omega) M2.out (P.out.r0 M2.out q6 (by omega)))
            by_cases w1 : i < m
            · have u1 : (i : Int) < (m : Int) := by omega
              have im : i = mid := by omega
              have v1 : ¬ (i : Int) < (mid : Int) := by omega
              have u2 : ¬ (m : Int) < (mid : Int) + (m : Int) - (i : Int) := by omega
              have v3 : (a : Int) < (i : Int) := by omega
              have u3 : (mid : Int) < (mid : Int) + (m : Int) - (i : Int) := by omega
              have v2 : ¬ (mid : Int) + (m : Int) - (i : Int) < (b : Int) := by omega
              clear im
              go_wp2_with fail
              go_end0
              exact ⟨rfl, d, H.out, S1.out⟩
            · have u1 : ¬ (i : Int) < (m : Int) := by omega
              have u1' : decide ((i : Int) < (m : Int)) = false := decide_eq_false u1
              have u3 : ¬ (mid : Int) < (mid : Int) + (m : Int) - (i : Int) := by omega
              have u3' : decide ((mid : Int) < (mid : Int) + (m : Int) - (i : Int)) = false := decide_eq_false u3
              have v3 : (a : Int) < (i : Int) := by omega
              have v1 : ¬ (i : Int) < (mid : Int) := by omega
              go_wp2_with fail
              go_end0
              exact ⟨rfl, d, H.out, S1.out⟩
end Go.Proofs.Ytinfjfjheimceaa.So
