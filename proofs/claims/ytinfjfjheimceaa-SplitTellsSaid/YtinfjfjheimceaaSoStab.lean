/- Package slices: SortStableFunc at the shares of package split. -/
import Derived.Test.YtinfjfjheimceaaSoSym2
namespace Go.Proofs.Ytinfjfjheimceaa.So
open Go Go.Sort Go.RowKit Go.Lib
theorem sym_c {α : Type} [Inhabited α] (enc : α → List Value) (k : Nat) (hk3 : k = 3) (cf : α → α → Int) (g : Nat) (cb : Array Value) (blk off cap : Nat) {d0 : Array α} {w0 : World} (R : RowK enc k w0 blk off d0) (sz : Nat) (hz : d0.size = sz) (eg : ∀ args w, (callFunc g args).run Try.prog w = .ok (.enter g args) w) (hcmp : CmpLays Try.prog g cb enc k cf blk off d0.size w0) (bf : α → α → Prop) (tr : ∀ x y z, bf x y → bf y z → bf x z) (hsz : sz < 4611686018427387904) (N : Nat) :
    ∀ (a m b : Nat) (A M B : Int) (d : Array α) (w : World), A = (a : Int) → M = (m : Int) → B = (b : Int) → b - a ≤ N → a < m → m < b → b ≤ sz → d.size = sz → SWK enc k w0 blk off d w → Srt bf a m d → Srt bf m b d → Agr (ltOf cf) bf a m b d →
      Calls Try.prog 40 #[.slice (some ⟨blk, off, none⟩) sz cap, .int .i64 A, .int .i64 M, .int .i64 B, .func (.func g) #[] cb] w fun e w' => e = .returned (.tuple #[]) ∧ ∃ d', Hid (Mrg bf a b d d') ∧ Hid (SWK enc k w0 blk off d' w') := by
  induction N with
  | zero => intro a m b A M B d w _ _ _ h1 h2 h3; omega
  | succ N ih =>
    intro a m b A M B d w hA hM hB h1 h2 h3 h4 h5 S hl hr ag
    subst hA hM hB h5
    by_cases c1 : m = a + 1
    · exact (sym1_c enc k hk3 cf g cb blk off cap a m b d0 d w0 w R hz S eg hcmp bf tr c1 h3 h4 hsz hr ag).mono fun _ _ h => h
    · by_cases c2 : b = m + 1
      · exact (sym2_c enc k hk3 cf g cb blk off cap a m b d0 d w0 w R hz S eg hcmp bf tr c2 (by omega) h4 hsz hl ag).mono fun _ _ h => h
      · have ih' : ∀ (a' m' b' : Nat) (A M B : Int) (d' : Array α) (w' : World), A = (a' : Int) → M = (m' : Int) → B = (b' : Int) → b' - a' < b - a → a' < m' → m' < b' → b' ≤ d.size → d'.size = d.size → SWK enc k w0 blk off d' w' → Srt bf a' m' d' → Srt bf m' b' d' → Agr (ltOf cf) bf a' m' b' d' →
            Calls Try.prog 40 #[.slice (some ⟨blk, off, none⟩) d.size cap, .int .i64 A, .int .i64 M, .int .i64 B, .func (.func g) #[] cb] w' fun e w'' => e = .returned (.tuple #[]) ∧ ∃ d'', Hid (Mrg bf a' b' d' d'') ∧ Hid (SWK enc k w0 blk off d'' w'') := fun a' m' b' A M B d' w' e1 e2 e3 g1 => ih a' m' b' A M B d' w' e1 e2 e3 (by omega)
        by_cases c3 : (a + b) / 2 < m
        · exact (sym3a_c enc k hk3 cf g cb blk off cap a m b ((a + b) / 2) d0 d w0 w R hz S eg hcmp bf tr rfl c3 (by omega) (by omega) h4 hsz hl hr ag ih').mono fun _ _ h => h
        · exact (sym3b_c enc k hk3 cf g cb blk off cap a m b ((a + b) / 2) d0 d w0 w R hz S eg hcmp bf tr rfl (by omega) (by omega) (by omega) h4 hsz hl hr ag ih').mono fun _ _ h => h
theorem ins_c' {α : Type} [Inhabited α] (enc : α → List Value) (k : Nat) (hk3 : k = 3) (cf : α → α → Int) (g : Nat) (cb : Array Value) (blk off cap : Nat) (a b sz : Nat) (A B : Int) (hA : A = (a : Int)) (hB : B = (b : Int)) (d0 d : Array α) (w0 w : World) (R : RowK enc k w0 blk off d0) (hs : d0.size = d.size) (S : SWK enc k w0 blk off d w) (eg : ∀ args w, (callFunc g args).run Try.prog w = .ok (.enter g args) w) (hcmp : CmpLays Try.prog g cb enc k cf blk off d0.size w0) (bf : α → α → Prop) (tr : ∀ x y z, bf x y → bf y z → bf x z) (fair : ∀ x y, a ≤ x → x < y → y < b → Ag (ltOf cf) bf d[x]! d[y]!) (hab : a ≤ b) (hb : b ≤ sz) (hz : sz = d.size) (hsz : sz < 4611686018427387904) :
    Calls Try.prog 39 #[.slice (some ⟨blk, off, none⟩) sz cap, .int .i64 A, .int .i64 B, .func (.func g) #[] cb] w fun e w' => e = .returned (.tuple #[]) ∧ ∃ d', Hid (Mrg bf a b d d') ∧ Hid (SWK enc k w0 blk off d' w') := by
  subst hA hB hz
  exact (ins_c enc k hk3 cf g cb blk off cap a b d0 d w0 w R hs S eg hcmp bf tr fair hab hb hsz).mono fun _ _ h => h
set_option maxHeartbeats 4000000 in
set_option maxRecDepth 1000000 in
theorem stable_c {α : Type} [Inhabited α] (enc : α → List Value) (k : Nat) (hk3 : k = 3) (cf : α → α → Int) (g : Nat) (cb : Array Value) (blk off cap : Nat) (d : Array α) (w : World) (R : RowK enc k w blk off d) (eg : ∀ args w, (callFunc g args).run Try.prog w = .ok (.enter g args) w) (hcmp : CmpLays Try.prog g cb enc k cf blk off d.size w) (bf : α → α → Prop) (tr : ∀ x y z, bf x y → bf y z → bf x z) (fair : Fair (ltOf cf) bf d d.size) (hsz : d.size < 4611686018427387904) :
    Calls Try.prog 34 #[.slice (some ⟨blk, off, none⟩) d.size cap, .int .i64 d.size, .func (.func g) #[] cb] w fun e w' => e = .returned (.tuple #[]) ∧ ∃ d', Hid (PermIn 0 d.size d d') ∧ Hid (Srt bf 0 d.size d') ∧ Hid (SWK enc k w blk off d' w') := by
  have mixed : Try.prog.follows .mixedOrders = true := by kernel_rfl
  have aE : ∀ w, (isAgg 44).run Try.prog w = .ok true w := fun _ => by kernel_rfl
  have zE : ∀ w, (Go.sizeOf 44).run Try.prog w = .ok k w := fun _ => by subst hk3; kernel_rfl
  have HK3 : Hid (k = 3) := hk3
  clear hk3
  have HC : Hid (CmpLays Try.prog g cb enc k cf blk off d.size w) := hcmp
  have S0 : Hid (SWK enc k w blk off d w) := SWK.start R.hH
  have TR := Lib.hid tr
  have FR := Lib.hid fair
  clear hcmp tr fair
  obtain ⟨w0, hw0⟩ : ∃ u, u = w := ⟨_, rfl⟩
  have HW := Lib.hid hw0
  have R0 : RowK enc k w0 blk off d := by rw [hw0]; exact R
  have S1 : Hid (SWK enc k w0 blk off d w) := by show SWK enc k w0 blk off d w; rw [hw0]; exact S0.out
  have HC1 : Hid (CmpLays Try.prog g cb enc k cf blk off d.size w0) := by show CmpLays _ _ _ _ _ _ _ _ _ w0; rw [hw0]; exact HC.out
  clear S0 HC R hw0
  go_enter Try.func34, Try.ntmps34
  go_wp2_with fail
  go_loopg [7, 8] d.size (fun kx s7 s8 wr => ∃ (a b : Nat) (dk : Array α), s7 = .int .i64 (a : Int) ∧ s8 = .int .i64 (b : Int) ∧ a + 20 ≤ b ∧ b ≤ a + 20 ∧ a ≤ d.size ∧ d.size - a ≤ kx ∧ Hid (20 ∣ a) ∧ Hid (Ins bf d dk d.size 20 a) ∧ Hid (SWK enc k w0 blk off dk wr))
  case atStart => exact ⟨0, 20, d, rfl, rfl, by omega, by omega, by omega, by omega, Lib.hid (Nat.dvd_zero _), Lib.hid Ins.start, S1⟩
  case round =>
    clear S1
    obtain ⟨a, b, dk, rfl, rfl, hab1, hab2, had, hkx, HD, IN, S1⟩ := hrel
    have zk := Lib.hid (IN.out.perm.1)
    by_cases hlt : b ≤ d.size
    · have hltz : (b : Int) ≤ (d.size : Int) := by omega
      have hltz' : ¬ (d.size : Int) < (b : Int) := by omega
      go_wp2_with fail
      refine (ins_c' enc k HK3.out cf g cb blk off cap a b d.size _ _ rfl rfl d dk w0 _ R0 zk.out.symm S1.out eg HC1.out bf TR.out (fun x y h1 h2 h3 => by rw [IN.out.high x h1, IN.out.high y (by omega)]; exact FR.out x y h2 (by omega)) (by omega) hlt zk.out.symm hsz).mono ?_
      rintro e' w' ⟨rfl, d', M, S2⟩
      clear S1
      go_wp2_with fail
      go_roundg (d.size - b)
      case measure => omega
      case rel =>
        refine ⟨b, b + 20, d', rfl, by go_num, by omega, by omega, hlt, Nat.le_refl _, Lib.hid ?_, Lib.hid ?_, S2⟩
        · obtain rfl : b = a + 20 := by omega
          exact Nat.dvd_add HD.out (Nat.dvd_refl _)
        · have hf : fin 20 d.size a = b := by unfold fin; omega
          have := IN.out.step (by omega) HD.out (Nat.le_refl _) had (by rw [hf]; exact M.out)
          rwa [show a + 20 = b by omega] at this
    · have hltz : ¬ (b : Int) ≤ (d.size : Int) := by omega
      have hltz' : (d.size : Int) < (b : Int) := by omega
      go_wp2_with fail
      refine (ins_c' enc k HK3.out cf g cb blk off cap a d.size d.size _ _ rfl rfl d dk w0 _ R0 zk.out.symm S1.out eg HC1.out bf TR.out (fun x y h1 h2 h3 => by rw [IN.out.high x h1, IN.out.high y (by omega)]; exact FR.out x y h2 (by omega)) had (Nat.le_refl _) zk.out.symm hsz).mono ?_
      rintro e' w' ⟨rfl, d', M, S2⟩
      clear S1
      have B0 : Hid (Blks bf d d' d.size 20 (20 + 20) 0) := by
        have hf : fin 20 d.size a = d.size := by unfold fin; omega
        exact (IN.out.step (by omega) HD.out (Nat.le_refl _) had (by rw [hf]; exact M.out)).blks (by omega)
      clear IN M HD zk
      go_wp2_with fail
      go_loopg [6] d.size (fun kx s6 wr => ∃ (s : Nat) (dk : Array α), s6 = .int .i64 (s : Int) ∧ 20 ≤ s ∧ s ≤ 9223372036854775807 ∧ d.size - s ≤ kx ∧ Hid (Blks bf d dk d.size s (s + s) 0) ∧ Hid (SWK enc k w0 blk off dk wr))
      case atStart => exact ⟨20, d', rfl, by omega, by omega, by omega, B0, S2⟩
      case round =>
        clear S2 B0
        obtain ⟨s, dk, rfl, hs20, hsm, hks, B1, S2⟩ := hrel
        by_cases hsn : s < d.size
        · have hsz1 : (s : Int) < (d.size : Int) := by omega
          go_wp2_with fail
          go_loopg [7, 8] d.size (fun kx s7 s8 wr => ∃ (a b : Nat) (dk : Array α), s7 = .int .i64 (a : Int) ∧ s8 = .int .i64 (b : Int) ∧ a + (s + s) ≤ b ∧ b ≤ a + (s + s) ∧ a ≤ d.size ∧ d.size - a ≤ kx ∧ Hid ((s + s) ∣ a) ∧ Hid (Blks bf d dk d.size s (s + s) a) ∧ Hid (SWK enc k w0 blk off dk wr))
          case atStart => exact ⟨0, s + s, dk, rfl, by first | rfl | (congr 1; omega), by omega, by omega, by omega, by omega, Lib.hid (Nat.dvd_zero _), B1, S2⟩
          case round =>
            clear S2 B1
            obtain ⟨a, b, dk, rfl, rfl, hab1, hab2, had, hkx, HD, B1, S2⟩ := hrel
            have zk := Lib.hid (B1.out.perm.1)
            by_cases hlt : b ≤ d.size
            · have hltz : (b : Int) ≤ (d.size : Int) := by omega
              have hltz' : ¬ (d.size : Int) < (b : Int) := by omega
              have hf : Hid (fin (s + s) d.size a = b) := by show fin (s + s) d.size a = b; unfold fin; omega
              have T := B1.out.parts HD.out FR.out (by omega)
              rw [hf.out] at T
              have TH := Lib.hid T
              clear T
              have EM : Hid ((a : Int) + (s : Int) = ((a + s : Nat) : Int)) := by show (a : Int) + (s : Int) = ((a + s : Nat) : Int); omega
              go_wp2_with fail
              refine (sym_c enc k HK3.out cf g cb blk off cap R0 d.size rfl eg HC1.out bf TR.out hsz (b - a) a (a + s) b _ _ _ dk _ rfl EM.out rfl (Nat.le_refl _) (by omega) (by omega) hlt zk.out S2.out TH.out.1 TH.out.2.1 TH.out.2.2).mono ?_
              rintro e' w' ⟨rfl, d2, M, S3⟩
              clear S2
              go_wp2_with fail
              go_roundg (d.size - b)
              case measure => omega
              case rel =>
                refine ⟨b, b + (s + s), d2, rfl, by first | rfl | (congr 1; omega), by omega, by omega, hlt, Nat.le_refl _, Lib.hid ?_, Lib.hid ?_, S3⟩
                · obtain rfl : b = a + (s + s) := by omega
                  exact Nat.dvd_add HD.out (Nat.dvd_refl _)
                · have := B1.out.step (by omega) HD.out (Nat.le_refl _) (by omega) (by rw [hf.out]; exact M.out)
                  rwa [show a + (s + s) = b by omega] at this
            · have hltz : ¬ (b : Int) ≤ (d.size : Int) := by omega
              have hltz' : (d.size : Int) < (b : Int) := by omega
              have EM : Hid ((a : Int) + (s : Int) = ((a + s : Nat) : Int)) := by show (a : Int) + (s : Int) = ((a + s : Nat) : Int); omega
              by_cases hm : a + s < d.size
              · have hmz : (a : Int) + (s : Int) < (d.size : Int) := by omega
                have hf : Hid (fin (s + s) d.size a = d.size) := by show fin (s + s) d.size a = d.size; unfold fin; omega
                have T := B1.out.parts HD.out FR.out hm
                rw [hf.out] at T
                have TH := Lib.hid T
                clear T
                go_wp2_with fail
                refine (sym_c enc k HK3.out cf g cb blk off cap R0 d.size rfl eg HC1.out bf TR.out hsz (d.size - a) a (a + s) d.size _ _ _ dk _ rfl EM.out rfl (Nat.le_refl _) (by omega) hm (Nat.le_refl _) zk.out S2.out TH.out.1 TH.out.2.1 TH.out.2.2).mono ?_
                rintro e' w' ⟨rfl, d2, M, S3⟩
                clear S2
                go_wp2_with fail
                go_roundg (d.size - (s + s))
                case measure => omega
                case rel => exact ⟨s + s, d2, by first | rfl | (congr 1; omega), by omega, by omega, by omega, Lib.hid ((B1.out.step (by omega) HD.out (Nat.le_refl _) hm (by rw [hf.out]; exact M.out)).again (by omega)), S3⟩
              · have hmz : ¬ (a : Int) + (s : Int) < (d.size : Int) := by omega
                go_wp2_with fail
                go_roundg (d.size - (s + s))
                case measure => omega
                case rel => exact ⟨s + s, dk, by first | rfl | (congr 1; omega), by omega, by omega, by omega, Lib.hid ((B1.out.rest (by omega) HD.out (by omega)).again (Nat.le_refl _)), S2⟩
        · have hsz1 : ¬ (s : Int) < (d.size : Int) := by omega
          go_wp2_with fail
          go_end0
          have E := B1.out.whole0 (by omega)
          have e0 := HW.out
          subst e0
          exact ⟨rfl, dk, Lib.hid E.1, Lib.hid E.2, S2⟩
set_option maxHeartbeats 4000000 in
set_option maxRecDepth 1000000 in
theorem sortstable_c {α : Type} [Inhabited α] (enc : α → List Value) (k : Nat) (hk3 : k = 3) (cf : α → α → Int) (g : Nat) (cb : Array Value) (blk off cap : Nat) (d : Array α) (w : World) (R : RowK enc k w blk off d) (eg : ∀ args w, (callFunc g args).run Try.prog w = .ok (.enter g args) w) (hcmp : CmpLays Try.prog g cb enc k cf blk off d.size w) (bf : α → α → Prop) (tr : ∀ x y z, bf x y → bf y z → bf x z) (fair : Fair (ltOf cf) bf d d.size) (hsz : d.size < 4611686018427387904) :
    Calls Try.prog 30 #[.slice (some ⟨blk, off, none⟩) d.size cap, .func (.func g) #[] cb] w fun e w' => e = .returned (.tuple #[]) ∧ ∃ d', Hid (PermIn 0 d.size d d') ∧ Hid (Srt bf 0 d.size d') ∧ Hid (SWK enc k w blk off d' w') := by
  have K := stable_c enc k hk3 cf g cb blk off cap d w R eg hcmp bf tr fair hsz
  clear R hcmp tr fair hk3
  go_enter Try.func30, Try.ntmps30
  go_wp2_with fail
  refine K.mono ?_
  rintro e' w' ⟨rfl, d', M1, M2, S2⟩
  go_wp2_with fail
  go_end0
  exact ⟨rfl, d', M1, M2, S2⟩
end Go.Proofs.Ytinfjfjheimceaa.So
