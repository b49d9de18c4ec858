/- Package chart: the document's Side and Add. -/
import Derived.Test.YtialclecoamobaaChApp
import Derived.Lib.Strings
import Derived.BigQuiet
namespace Go.Proofs.Ytialclecoamobaa.Ch
open Go Go.RowKit Ck Go.Maps
set_option maxRecDepth 100000 in
theorem rside_c (w : World) (c : Int) : Calls Try.prog 14 #[.int .u8 c] w fun e w' => e = .returned (.int .i64 (sideM c)) ∧ w = w' := by
  unfold sideM
  by_cases h1 : c = 1
  · subst h1
    go_enter Try.func14, Try.ntmps14
    go_wp2_with fail
    go_ret
    exact ⟨rfl, rfl⟩
  by_cases h4 : c = 4
  · subst h4
    go_enter Try.func14, Try.ntmps14
    go_wp2_with fail
    go_ret
    exact ⟨rfl, rfl⟩
  by_cases h2 : c = 2
  · subst h2
    go_enter Try.func14, Try.ntmps14
    go_wp2_with fail
    go_ret
    exact ⟨rfl, rfl⟩
  by_cases h3 : c = 3
  · subst h3
    go_enter Try.func14, Try.ntmps14
    go_wp2_with fail
    go_ret
    exact ⟨rfl, rfl⟩
  by_cases h5 : c = 5
  · subst h5
    go_enter Try.func14, Try.ntmps14
    go_wp2_with fail
    go_ret
    exact ⟨rfl, rfl⟩
  rw [if_neg (by omega), if_neg (by omega)]
  have b1 : (c == 1) = false := beq_eq_false_iff_ne.2 h1
  have b2 : (c == 2) = false := beq_eq_false_iff_ne.2 h2
  have b3 : (c == 3) = false := beq_eq_false_iff_ne.2 h3
  have b4 : (c == 4) = false := beq_eq_false_iff_ne.2 h4
  have b5 : (c == 5) = false := beq_eq_false_iff_ne.2 h5
  clear h1 h2 h3 h4 h5
  go_enter Try.func14, Try.ntmps14
  go_wp2_with fail
  go_ret
  exact ⟨rfl, rfl⟩
theorem place_eq : ∀ {K : List Int} {code : Int} {i : Nat} (_ : ∀ j (h : j < K.length), j < i → K[j] < code) (_ : i ≤ K.length) (_ : ∀ h : i < K.length, ¬ K[i] < code), i = place K code
  | [], _, i, _, h2, _ => by simp at h2; subst h2; rfl
  | c :: K, code, i, h1, h2, h3 => by
    unfold place
    cases i with
    | zero => exact (if_neg (show ¬ c < code from h3 (by simp))).symm
    | succ i =>
      rw [if_pos (show c < code from h1 0 (by simp) (by omega))]
      congr 1
      exact place_eq (fun j hj hji => h1 (j + 1) (by simpa using hj) (by omega)) (by simpa using h2) (fun h => h3 (by simpa using h))
/-- What the document's Add and Shut answer. -/
def RRes (base : Nat) (M' : Int → Option Acc) (z : Int) (w : World) (e : Ending) (w' : World) : Prop :=
  ∃ (v' : Value) (K' : List Int), e = .returned (.tuple #[v', .int .i64 z]) ∧ Ks M' K' ∧ w'.ownsRow base TAc 5 v' K'.length (flatA (lst M' K')) ∧ Below w.heap.size w w'
section
variable {w : World} {M : Int → Option Acc} {K : List Int}
theorem rres_same {base : Nat} {v : Value} {z : Int} {w' : World} (g : Gm M K) (h : w.ownsRow base TAc 5 v K.length (flatA (lst M K))) (k : Below w.heap.size w w') : RRes base M z w (.returned (.tuple #[v, .int .i64 z])) w' :=
  ⟨v, K, rfl, g.ks, own_later h k, k⟩
set_option maxRecDepth 100000 in
set_option maxHeartbeats 3200000 in
theorem radd_c (g : Gm M K) (a : A5) (hf : a.Fits) (v : Value) (base : Nat) (hbase : base ≤ w.heap.size) (h : w.ownsRow base TAc 5 v K.length (flatA (lst M K))) : Calls Try.prog 10 #[v, a.val] w (RRes base (addM M a).1 (addM M a).2 w) := by
  have G := Lib.hid g
  have H := Lib.hid h
  have hK9 := g.wd.few g.ks
  obtain ⟨i0, z0, hi0, hz0, hz1, hz2, hz3⟩ := info_ac
  have hAK := g.addKs (a := a)
  have hAE := addM_err (M := M) (a := a)
  obtain ⟨R, hR⟩ : ∃ R, R = addM M a := ⟨_, rfl⟩
  rw [← hR] at hAK hAE ⊢
  have HAK := Lib.hid hAK
  unfold addM at hR
  clear hAK hAE
  have HBS : Hid (base ≤ w.heap.size) := hbase
  clear hbase
  obtain ⟨code, up, cls, name, shut⟩ := a
  have hc1 := hf.code
  have hu1 := hf.up
  have hn := hf.name
  simp only at hc1 hu1 hn
  have HC1 := Lib.hid hc1
  have HU1 := Lib.hid hu1
  obtain ⟨va, vc, rfl, hac, hvc⟩ : ∃ a cap, v = .slice a K.length cap ∧ Acs w a (lst M K) ∧ K.length ≤ cap := by
    obtain ⟨a, cap, e, h1, h2⟩ := acs_own h (lst_len M K).symm
    rw [lst_len] at e h2
    exact ⟨a, cap, e, h1, h2⟩
  have KA : Hid (∀ c u, Below w.heap.size w u → Calls Try.prog 24 #[.slice va K.length vc, .int .i64 c] u (AtRes K c u)) := fun c u hu => at_c g vc c (hac.later hu)
  have KD : Hid (∀ c u, Below w.heap.size w u → Calls Try.prog 29 #[.slice va K.length vc, .int .i64 c] u fun e w' => e = .returned (.int .i64 ((sm K (fun x => ind M x c) : Nat) : Int)) ∧ u = w') := fun c u hu => depth_c g vc c (hac.later hu)
  have HAC := Lib.hid hac
  clear g h hf hc1 hu1 hac
  have HB0 : Hid (Below w.heap.size w (w.alloc (.cells #[.int .i64 code, .int .i64 up, .int .u8 cls, .string name, .bool shut] TAc))) := (Below.refl _ w).alloc (Nat.le_refl _) _
  have RB0 : Hid (Rw (w.alloc (.cells #[.int .i64 code, .int .i64 up, .int .u8 cls, .string name, .bool shut] TAc)) w.heap.size TAc [.int .i64 code, .int .i64 up, .int .u8 cls, .string name, .bool shut]) := Rw.new w [.int .i64 code, .int .i64 up, .int .u8 cls, .string name, .bool shut] TAc
  have KS : Hid (∀ u, Calls Try.prog 14 #[.int .u8 cls] u fun e w' => e = .returned (.int .i64 (sideM cls)) ∧ u = w') := fun u => rside_c u cls
  obtain ⟨sd, hsd⟩ : ∃ sd, sd = sideM cls := ⟨_, rfl⟩
  have HV : Hid (A5.validB ⟨code, up, cls, name, shut⟩ = (decide (1 ≤ code) && decide (code ≤ 9999) && decide (sd ≠ 0) && (!name.toList.isEmpty) && decide (name.size ≤ 60) && !shut)) := by rw [hsd]; rfl
  rw [← hsd] at KS
  rw [HV.out] at hR
  clear hsd HV
  unfold A5.val
  simp only at hR ⊢
  have HEM : Hid (name.toList.isEmpty = decide (name.size < 1)) := by
    show _ = _
    have : name.toList.length = name.size := by rw [ByteArray.toList_eq]; exact (Lib.size_eq name).symm
    rw [← this]
    clear this
    generalize name.toList = l
    cases l <;> simp
  rw [HEM.out] at hR
  clear HEM
  obtain ⟨vd, hvd⟩ : ∃ r, r = (decide (1 ≤ code) && decide (code ≤ 9999) && decide (sd ≠ 0) && (!decide (name.size < 1)) && decide (name.size ≤ 60) && !shut) := ⟨_, rfl⟩
  rw [← hvd] at hR
  by_cases h1 : 1 ≤ code
  case neg =>
    have hv : vd = false := by rw [hvd]; simp [h1]
    rw [if_pos hv] at hR
    subst hR
    clear hv hvd HAK
    go_enter Try.func10, Try.ntmps10
    go_wp2_with fail
    go_ret2
    exact rres_same G.out H.out HB0.out
  by_cases h2 : code ≤ 9999
  case neg =>
    have hv : vd = false := by rw [hvd]; simp [h2]
    rw [if_pos hv] at hR
    subst hR
    clear hv hvd HAK
    go_enter Try.func10, Try.ntmps10
    go_wp2_with fail
    go_ret2
    exact rres_same G.out H.out HB0.out
  by_cases h3 : sd = 0
  case pos =>
    have hv : vd = false := by rw [hvd]; simp [h3]
    subst h3
    rw [if_pos hv] at hR
    subst hR
    clear hv hvd HAK
    go_enter Try.func10, Try.ntmps10
    go_wp2_with fail
    refine (KS.out _).mono ?_
    rintro e w' ⟨rfl, rfl⟩
    go_wp2_with fail
    go_ret2
    exact rres_same G.out H.out HB0.out
  have b3 : (sd == 0) = false := by simpa using h3
  by_cases h4 : name.size < 1
  case pos =>
    have hv : vd = false := by rw [hvd]; simp [h4]
    have h4' : (name.size : Int) < 1 := by omega
    clear h4
    rw [if_pos hv] at hR
    subst hR
    clear hv hvd HAK
    go_enter Try.func10, Try.ntmps10
    go_wp2_with fail
    refine (KS.out _).mono ?_
    rintro e w' ⟨rfl, rfl⟩
    go_wp2_with fail
    go_ret2
    exact rres_same G.out H.out HB0.out
  have h4' : ¬ (name.size : Int) < 1 := by omega
  by_cases h5 : name.size ≤ 60
  case neg =>
    have hv : vd = false := by rw [hvd]; simp [h5]
    have h5' : ¬ (name.size : Int) ≤ 60 := by omega
    clear h5 h4
    rw [if_pos hv] at hR
    subst hR
    clear hv hvd HAK
    go_enter Try.func10, Try.ntmps10
    go_wp2_with fail
    refine (KS.out _).mono ?_
    rintro e w' ⟨rfl, rfl⟩
    go_wp2_with fail
    go_ret2
    exact rres_same G.out H.out HB0.out
  have h5' : (name.size : Int) ≤ 60 := by omega
  by_cases h6 : shut = true
  case pos =>
    have hv : vd = false := by rw [hvd]; simp [h6]
    subst h6
    clear h5 h4
    rw [if_pos hv] at hR
    subst hR
    clear hv hvd HAK
    go_enter Try.func10, Try.ntmps10
    go_wp2_with fail
    refine (KS.out _).mono ?_
    rintro e w' ⟨rfl, rfl⟩
    go_wp2_with fail
    go_ret2
    exact rres_same G.out H.out HB0.out
  have h6' : shut = false := by simpa using h6
  subst h6'
  have hv : ¬ vd = false := by rw [hvd]; simp [h1, h2, h3, h4, h5]
  rw [if_neg hv] at hR
  clear hv hvd h4 h5 h6
  go_enter Try.func10, Try.ntmps10
  go_wp2_with fail
  refine (KS.out _).mono ?_
  rintro e w' ⟨rfl, rfl⟩
  go_upto_region 3 with (fail)
  generalize w.alloc (.cells #[.int .i64 code, .int .i64 up, .int .u8 cls, .string name, .bool false] TAc) = W0 at HB0 RB0 ⊢
  clear h3 b3 h4' h5' KS
  have b0 : W0.cell? ⟨w.heap.size, 0, none⟩ = some (.int .i64 code) := (RB0.out).cell 0
  have b1 : W0.cell? ⟨w.heap.size, 1, none⟩ = some (.int .i64 up) := (RB0.out).cell 1
  have b2 : W0.cell? ⟨w.heap.size, 2, none⟩ = some (.int .u8 cls) := (RB0.out).cell 2
  have b3 : W0.cell? ⟨w.heap.size, 3, none⟩ = some (.string name) := (RB0.out).cell 3
  have b4 : W0.cell? ⟨w.heap.size, 4, none⟩ = some (.bool false) := (RB0.out).cell 4
  go_wp2_with fail
  refine (KA.out code W0 HB0.out).mono ?_
  rintro e w' ⟨rfl, z, rfl, hz⟩
  rcases hz with ⟨rfl, hn⟩ | ⟨i, hi, hkc, rfl⟩
  case inr =>
    have hs : (M code).isSome = true := (G.out.ks.mem code).1 (by rw [← hkc]; exact List.getElem_mem hi)
    rw [if_pos hs] at hR
    subst hR
    clear HAK hs hkc
    go_wp2_with fail
    go_ret2
    exact rres_same G.out H.out HB0.out
  have hs : ¬ (M code).isSome = true := fun e => hn ((G.out.ks.mem code).2 e)
  rw [if_neg hs] at hR
  clear hs hn
  go_upto_region 5 with (fail)
  clear b3 b4
  go_cut [48] (fun s48 wx => s48 = .bool (up != 0) ∧ W0 = wx)
  case first =>
    go_wp2_with fail
    go_meet
    exact ⟨rfl, rfl⟩
  obtain ⟨rfl, rfl⟩ := hcut
  rename_i K1 hK2 K3 hKK
  apply hKK
  go_cut [6] (fun s6 wx => ∃ m, wx = W0.drewN m ∧ Hid (R.2 = 0))
  case first =>
    by_cases hup : up = 0
    · subst hup
      rw [if_pos rfl] at hR
      have HR0 : Hid (R.2 = 0) := by rw [hR]; rfl
      clear hR
      go_wp2_with fail
      go_meet
      exact ⟨0, rfl, HR0⟩
    · rw [if_neg hup] at hR
      have bup : (up != 0) = true := by simpa using hup
      clear hup
      go_wp2_with fail
      refine (KA.out up W0 HB0.out).mono ?_
      rintro e w' ⟨rfl, z, rfl, hz⟩
      rcases hz with ⟨rfl, hn⟩ | ⟨i, hi, hkc, rfl⟩
      · have hm : M up = none := by
          cases hm : M up with
          | none => rfl
          | some p => exact absurd ((G.out.ks.mem up).2 (by rw [hm]; rfl)) hn
        rw [hm] at hR
        simp only at hR
        subst hR
        clear HAK hm hn
        go_wp2_with fail
        go_ret2
        exact rres_same G.out H.out HB0.out
      · obtain ⟨ab, off, p, rfl, hp, hf⟩ := G.out.five (HAC.out.later HB0.out) hi
        rw [hkc] at hp
        have hd := G.out.wd.depth_is G.out.root G.out.ks up p hp
        rw [hp] at hR
        simp only at hR
        obtain ⟨dd, hdd⟩ : ∃ dd, dd = sm K (fun x => ind M x up) := ⟨_, rfl⟩
        have KD2 : Hid (∀ nq, Calls Try.prog 29 #[.slice (some ⟨ab, off, none⟩) K.length vc, .int .i64 up] (W0.drewN nq) fun e w' => e = .returned (.int .i64 (dd : Int)) ∧ w' = W0.drewN nq) := fun nq => by
          rw [hdd]
          exact (KD.out up _ (below_drewN HB0.out nq)).mono fun _ _ h => ⟨h.1, h.2.symm⟩
        rw [← hdd] at hd
        have HD := Lib.hid hd
        obtain ⟨pa, pb, pc, ps, pd, pe, pf⟩ := p
        simp only at hd hR
        have c2 := hf.c2
        have c4 := hf.c4
        simp only at c2 c4
        have j0 : (0 : Int) ≤ (i : Int) := by omega
        have j1 : (i : Int) < (K.length : Int) := by omega
        clear hf hp hkc hdd hd
        cases pd with
        | true =>
          rw [if_pos (.inl rfl)] at hR
          subst hR
          clear HAK
          go_wp2_with fail
          go_quiet ((go_at_call 29; exact Calls.quiet_of_same (KD2.out _)))
          go_wp2_with fail
          go_ret2
          exact rres_same G.out H.out (below_drewN HB0.out _)
        | false =>
          by_cases hcl : pc = cls
          · subst hcl
            have HD8 : Hid ((dd : Int) = pe) := HD.out
            by_cases h8 : 8 ≤ pe
            · rw [if_pos (.inr (.inr h8))] at hR
              subst hR
              have h8' : (8 : Int) ≤ (dd : Int) := by rw [HD8.out]; exact h8
              clear HAK h8
              go_wp2_with fail
              go_quiet ((go_at_call 29; exact Calls.quiet_of_same (KD2.out _)))
              go_wp2_with fail
              go_ret2
              exact rres_same G.out H.out (below_drewN HB0.out _)
            · rw [if_neg (by rintro (h | h | h); cases h; exact h rfl; exact h8 h)] at hR
              have HR0 : Hid (R.2 = 0) := by rw [hR]; rfl
              have h8' : ¬ (8 : Int) ≤ (dd : Int) := by rw [HD8.out]; exact h8
              clear hR h8
              go_wp2_with fail
              go_quiet ((go_at_call 29; exact Calls.quiet_of_same (KD2.out _)))
              go_wp2_with fail
              go_meet
              exact ⟨_, rfl, HR0⟩
          · rw [if_pos (.inr (.inl hcl))] at hR
            subst hR
            have bcl : (pc != cls) = true := by simpa using hcl
            clear HAK hcl
            go_wp2_with fail
            go_quiet ((go_at_call 29; exact Calls.quiet_of_same (KD2.out _)))
            go_wp2_with fail
            go_ret2
            exact rres_same G.out H.out (below_drewN HB0.out _)
  obtain ⟨m, rfl, HR0⟩ := hcut
  apply hK2
  clear hR KA KD
  have HP9 := Lib.hid (HAK.out HR0.out)
  have HR9 : Hid (R.2 = 0) := HR0
  clear HAK HR0 hK2 hKK
  have HAC0 := Lib.hid (HAC.out.later HB0.out)
  refine wp_seq_k (fun K4 hK4 => ?_)
  go_cut [7] (fun s7 wx => s7 = .int .i64 0 ∧ wx = W0.drewN m)
  case first =>
    go_wp2_with fail
    go_meet
    exact ⟨rfl, rfl⟩
  obtain ⟨rfl, rfl⟩ := hcut
  apply hK4
  refine wp_seq_k (fun K5 hK5 => ?_)
  go_cut [7] (fun s7 wx => s7 = .int .i64 (place K code : Int) ∧ ∃ m, wx = W0.drewN m)
  case first =>
    clear HP9
    go_wp2_with fail
    go_loopg [7] K.length (fun kx s7 wr => ∃ i : Nat, s7 = .int .i64 (i : Int) ∧ i ≤ K.length ∧ (∃ m, wr = W0.drewN m) ∧ Hid (∀ j (h : j < K.length), j < i → K[j] < code) ∧ K.length ≤ i + kx)
    case atStart => exact ⟨0, rfl, Nat.zero_le _, ⟨m, rfl⟩, fun j _ hj => by omega, by omega⟩
    case round =>
      obtain ⟨i, rfl, hi9, ⟨m, rfl⟩, HJ, hkx⟩ := hrel
      by_cases hlt : i < K.length
      · obtain ⟨ab, off, p, rfl, hp, hf⟩ := G.out.five HAC0.out hlt
        have c0 := hf.c0
        have j0 : (0 : Int) ≤ (i : Int) := by omega
        have j1 : (i : Int) < (K.length : Int) := by omega
        by_cases hkc : K[i] < code
        · have HJ2 : Hid (∀ j (h : j < K.length), j < i + 1 → K[j] < code) := fun j hj hji => by
            by_cases e : j = i
            · subst e; exact hkc
            · exact HJ.out j hj (by omega)
          obtain ⟨k, hk⟩ : ∃ k, k = K[i] := ⟨_, rfl⟩
          rw [← hk] at c0 hkc
          clear hf hp hk HJ
          go_wp2_with fail
          go_quiet (fail)
          go_wp2_with fail
          go_roundg (K.length - (i + 1))
          case measure => omega
          case rel => exact ⟨i + 1, by simp, by omega, ⟨_, rfl⟩, HJ2, by omega⟩
        · have hpl : Hid (i = place K code) := place_eq HJ.out hi9 fun h => hkc
          have hd : decide (K[i] < code) = false := decide_eq_false hkc
          obtain ⟨k, hk⟩ : ∃ k, k = K[i] := ⟨_, rfl⟩
          rw [← hk] at c0 hd
          clear hf hp hk HJ hkc
          go_wp2_with fail
          go_quiet (fail)
          go_wp2_with fail
          go_meet
          exact ⟨by rw [hpl.out], m + nq, by rw [World.drewN_drewN]⟩
      · have hpl : Hid (i = place K code) := place_eq HJ.out hi9 fun h => absurd h hlt
        have hd : decide ((i : Int) < (K.length : Int)) = false := decide_eq_false (by omega)
        clear HJ
        go_wp2_with fail
        go_quiet (fail)
        go_wp2_with fail
        go_meet
        exact ⟨by rw [hpl.out], m + nq, by rw [World.drewN_drewN]⟩
  obtain ⟨rfl, m2, rfl⟩ := hcut
  apply hK5
  clear hK4 hK5
  have HB1 : Hid (Below w.heap.size w (W0.drewN m2)) := below_drewN HB0.out m2
  have RB1 : Hid (Rw (W0.drewN m2) w.heap.size TAc [.int .i64 code, .int .i64 up, .int .u8 cls, .string name, .bool false]) := RB0.out
  generalize W0.drewN m2 = W1 at HB1 RB1 ⊢
  clear b0 b1 b2 HAC0 HB0 RB0
  have hpl := place_le K code
  have HPL := Lib.hid hpl
  obtain ⟨i, hi⟩ : ∃ i, i = place K code := ⟨_, rfl⟩
  rw [← hi] at HP9 hpl HPL ⊢
  clear hi
  have HA1 : Hid (W1.ownsRow base TAc 5 (.slice va K.length vc) K.length (flatA (lst M K))) := own_later H.out HB1.out
  have hs1 : w.heap.size ≤ W1.heap.size := HB1.out.size
  have LT : Hid (flatA (lst M (K.take i)) = (flatA (lst M K)).take (i * 5)) := by
    show _ = _
    have e : flatA (lst M K) = flatA (lst M (K.take i)) ++ flatA (lst M (K.drop i)) := by rw [← flatA_app, ← lst_app, List.take_append_drop]
    rw [e, List.take_left']
    rw [flatA_len, lst_len, List.length_take, Nat.min_eq_left HPL.out]
  have LD : Hid (flatA (lst M (K.drop i)) = (flatA (lst M K)).drop (i * 5)) := by
    show _ = _
    have e : flatA (lst M K) = flatA (lst M (K.take i)) ++ flatA (lst M (K.drop i)) := by rw [← flatA_app, ← lst_app, List.take_append_drop]
    rw [e, List.drop_left']
    rw [flatA_len, lst_len, List.length_take, Nat.min_eq_left HPL.out]
  rcases id H.out.2 with ⟨hv0, h0⟩ | ⟨g, cap, cur, hv, hg1, hg2, _⟩
  · obtain ⟨rfl, hKL, rfl⟩ : va = none ∧ K.length = 0 ∧ vc = 0 := by simpa using hv0
    have hi0' : i = 0 := by omega
    have hi00 := Lib.hid hi0'
    have HKL := Lib.hid hKL
    have HL0 : Hid (flatA (lst M (K.take i)) = [] ∧ flatA (lst M (K.drop i)) = []) := by
      have : K = [] := List.length_eq_zero_iff.1 hKL
      show _ ∧ _
      rw [this]
      simp [lst, flatA]
    rw [hKL, hi0'] 
    clear hv0 h0 hpl
    go_wp2_with (at_builtin; refine wpList_append_any rfl _ _ TAs rfl w.heap.size TAc i0 z0 5 48 Try.underlying25 hi0 hz0 hz1 hz2 hz3 (by decide) _ 0 [] rfl (own_zero _ _ _ _ hs1) _ 0 0 [] rfl (.inl ⟨rfl, rfl, rfl, rfl⟩) (by simp) (by unfold maxLen; omega) (by omega) (by simp; omega) ?_)
    intro v1 w1 hown1 hg1 hat1
    have HB2 : Hid (Below w.heap.size w w1) := (HB1.out.alloc hs1 _).grown hg1 (by simp; omega) (fun j hj => by cases hj; exact hs1)
    have HK2 : Hid (Below W1.heap.size W1 w1) := ((Below.refl _ W1).alloc (Nat.le_refl _) _).grown hg1 (by simp) (fun j hj => by cases hj; exact Nat.le_refl _)
    have RB2 := Lib.hid (RB1.out.later HK2.out)
    obtain ⟨a1, c1, rfl⟩ := own_form5 hown1
    have HO1 := Lib.hid hown1
    have hs2 : w.heap.size ≤ w1.heap.size := HB2.out.size
    have b0 : w1.cell? ⟨w.heap.size, 0, none⟩ = some (.int .i64 code) := (RB2.out).cell 0
    have b1 : w1.cell? ⟨w.heap.size, 1, none⟩ = some (.int .i64 up) := (RB2.out).cell 1
    have b2 : w1.cell? ⟨w.heap.size, 2, none⟩ = some (.int .u8 cls) := (RB2.out).cell 2
    have b3 : w1.cell? ⟨w.heap.size, 3, none⟩ = some (.string name) := (RB2.out).cell 3
    have b4 : w1.cell? ⟨w.heap.size, 4, none⟩ = some (.bool false) := (RB2.out).cell 4
    clear hown1 hg1 hat1 HB1 RB1 HA1
    go_wp2_with (at_builtin; refine wpList_append_own_at _ rfl _ _ TAs rfl w.heap.size TAc i0 z0 5 48 Try.underlying25 hi0 hz0 hz1 hz2 hz3 (by decide) _ _ _ rfl (HO1.out.alloc _) ⟨w1.heap.size, 0, none⟩ 1 1 [.int .i64 code, .int .i64 up, .int .u8 cls, .string name, .bool false] rfl rfl (new_five _ _ _ _ _ _ _) (by simp [Value.oneCell']) (by unfold maxLen; omega) (by omega) (by simp; omega) ?_)
    intro v2 w2 hown2 hg2 hnil2 hat2
    have HB3 : Hid (Below w.heap.size w w2) := (HB2.out.alloc hs2 _).grown hg2 (by simp; omega) (fun j hj => (HO1.out.lt j hj).1)
    obtain ⟨a2, c2, rfl⟩ := own_form5 hown2
    have HO2 := Lib.hid hown2
    have hs3 : w.heap.size ≤ w2.heap.size := HB3.out.size
    clear hown2 hg2 hat2 hnil2 b0 b1 b2 b3 b4 HB2 RB2 HK2
    go_wp2_with (at_builtin; refine wpList_append_any rfl _ _ TAs rfl w.heap.size TAc i0 z0 5 48 Try.underlying25 hi0 hz0 hz1 hz2 hz3 (by decide) _ _ _ rfl HO2.out _ _ _ [] rfl (.inl ⟨rfl, rfl, rfl, rfl⟩) (by simp) (by unfold maxLen; omega) (by omega) hs3 ?_)
    intro v3 w3 hown3 hg3 hat3
    have HO3 := Lib.hid hown3
    have HG3 := Lib.hid hg3
    clear hown3 hg3 hat3
    obtain ⟨a3, c3, rfl⟩ := own_form5 HO3.out
    go_wp2_with fail
    go_ret2
    show RRes base R.1 R.2 w (.returned (.tuple #[.slice a3 1 c3, .int .i64 0])) w3
    refine ⟨_, _, by rw [HR9.out], HP9.out.1, ?_, HB3.out.grown HG3.out hs3 fun j hj => (HO2.out.lt j hj).1⟩
    rw [HP9.out.2, flatA_app, ins_len, HL0.out.1, HKL.out]
    refine own_lower ?_ HBS.out
    have e2 : flatA (⟨code, up, cls, name, false⟩ :: lst M (K.drop i)) = [.int .i64 code, .int .i64 up, .int .u8 cls, .string name, .bool false] ++ flatA (lst M (K.drop i)) := rfl
    rw [e2, HL0.out.2]
    simpa using HO3.out
  · obtain ⟨rfl, rfl⟩ : va = some ⟨g, 0, none⟩ ∧ vc = cap := by simpa using hv
    clear hv hg2
    obtain ⟨_, hgl, hrd⟩ := own_read HA1.out
    have HG := Lib.hid hgl
    have HRD : Hid (∀ j u, (flatA (lst M K))[j]? = some u → W1.cell? ⟨g, j, none⟩ = some u) := hrd
    clear hgl hrd
    have q0 : (0 : Int) ≤ (i : Int) := by omega
    have q1 : (i : Int) ≤ (K.length : Int) := by omega
    have q2 : (i : Int) ≤ (vc : Int) := by omega
    have q3 : (K.length : Int) ≤ (vc : Int) := by omega
    go_wp2_with (at_builtin; refine wpList_append_any rfl _ _ TAs rfl w.heap.size TAc i0 z0 5 48 Try.underlying25 hi0 hz0 hz1 hz2 hz3 (by decide) _ 0 [] rfl (own_zero _ _ _ _ hs1) _ i vc (flatA (lst M (K.take i))) rfl (.inr ⟨_, rfl, ?len1, ?rd1⟩) (flatA_one _) (by unfold maxLen; omega) (by omega) (by simp; omega) ?_)
    case len1 => rw [flatA_len, lst_len, List.length_take, Nat.min_eq_left HPL.out]
    case rd1 =>
      intro j u hu
      rw [LT.out] at hu
      have hj := (List.getElem?_eq_some_iff.1 hu).1
      rw [List.length_take] at hj
      rw [List.getElem?_take_of_lt (by omega)] at hu
      rw [Go.WideShapes.add_plain, Nat.zero_add, (((Below.refl W1.heap.size W1).alloc (Nat.le_refl _) _).cell (p := ⟨g, j, none⟩) (by simpa using HG.out))]
      exact HRD.out j u hu
    intro v1 w1 hown1 hg1 hat1
    have HB2 : Hid (Below w.heap.size w w1) := (HB1.out.alloc hs1 _).grown hg1 (by simp; omega) (fun j hj => by cases hj; exact hs1)
    have HK2 : Hid (Below W1.heap.size W1 w1) := ((Below.refl _ W1).alloc (Nat.le_refl _) _).grown hg1 (by simp) (fun j hj => by cases hj; exact Nat.le_refl _)
    have RB2 := Lib.hid (RB1.out.later HK2.out)
    have HA2 := Lib.hid (own_later HA1.out HK2.out)
    obtain ⟨a1, c1, rfl⟩ := own_form5 hown1
    have HO1 := Lib.hid hown1
    have hs2 : w.heap.size ≤ w1.heap.size := HB2.out.size
    have b0 : w1.cell? ⟨w.heap.size, 0, none⟩ = some (.int .i64 code) := (RB2.out).cell 0
    have b1 : w1.cell? ⟨w.heap.size, 1, none⟩ = some (.int .i64 up) := (RB2.out).cell 1
    have b2 : w1.cell? ⟨w.heap.size, 2, none⟩ = some (.int .u8 cls) := (RB2.out).cell 2
    have b3 : w1.cell? ⟨w.heap.size, 3, none⟩ = some (.string name) := (RB2.out).cell 3
    have b4 : w1.cell? ⟨w.heap.size, 4, none⟩ = some (.bool false) := (RB2.out).cell 4
    clear hown1 hg1 hat1 HRD HG HB1 RB1 HA1
    go_wp2_with (at_builtin; refine wpList_append_own_at _ rfl _ _ TAs rfl w.heap.size TAc i0 z0 5 48 Try.underlying25 hi0 hz0 hz1 hz2 hz3 (by decide) _ _ _ rfl (HO1.out.alloc _) ⟨w1.heap.size, 0, none⟩ 1 1 [.int .i64 code, .int .i64 up, .int .u8 cls, .string name, .bool false] rfl rfl (new_five _ _ _ _ _ _ _) (by simp [Value.oneCell']) (by unfold maxLen; omega) (by omega) (by simp; omega) ?_)
    intro v2 w2 hown2 hg2 hnil2 hat2
    have HB3 : Hid (Below w.heap.size w w2) := (HB2.out.alloc hs2 _).grown hg2 (by simp; omega) (fun j hj => (HO1.out.lt j hj).1)
    obtain ⟨a2, c2, rfl⟩ := own_form5 hown2
    have HO2 := Lib.hid hown2
    have hs3 : w.heap.size ≤ w2.heap.size := HB3.out.size
    have HA3 := Lib.hid (own_later H.out HB3.out)
    obtain ⟨_, hgl, hrd⟩ := own_read HA3.out
    have HRD : Hid (∀ j u, (flatA (lst M K))[j]? = some u → w2.cell? ⟨g, j, none⟩ = some u) := hrd
    clear hgl hrd hown2 hg2 hat2 hnil2 b0 b1 b2 b3 b4 HB2 RB2 HA2 HK2
    have hend : ∀ (v' : Value) (w' : World), w'.ownsRow w.heap.size TAc 5 v' (i + 1 + (K.length - i)) (flatA (lst M (K.take i)) ++ [.int .i64 code, .int .i64 up, .int .u8 cls, .string name, .bool false] ++ flatA (lst M (K.drop i))) → w2.grownBy w' (Value.slice a2 (i + 1) c2).ownBlock → RRes base R.1 R.2 w (.returned (.tuple #[v', .int .i64 0])) w' := fun v' w' ho hg => by
      refine ⟨v', _, by rw [HR9.out], HP9.out.1, ?_, HB3.out.grown hg hs3 fun j hj => (HO2.out.lt j hj).1⟩
      have e1 : (ins K i code).length = i + 1 + (K.length - i) := by rw [ins_len]; omega
      rw [e1, HP9.out.2, flatA_app]
      refine own_lower ?_ HBS.out
      have e2 : flatA (⟨code, up, cls, name, false⟩ :: lst M (K.drop i)) = [.int .i64 code, .int .i64 up, .int .u8 cls, .string name, .bool false] ++ flatA (lst M (K.drop i)) := rfl
      rw [e2, ← List.append_assoc]
      exact ho
    have HEND := Lib.hid hend
    clear hend
    by_cases hvi : vc = i
    · have hKi : K.length - i = 0 := by omega
      have LD0 : flatA (lst M (K.drop i)) = [] := by
        have : K.drop i = [] := List.drop_eq_nil_of_le (by omega)
        rw [this]; rfl
      have HL0 := Lib.hid LD0
      have HKi := Lib.hid hKi
      clear LD0
      go_wp2_with (at_builtin; refine wpList_append_any rfl _ _ TAs rfl w.heap.size TAc i0 z0 5 48 Try.underlying25 hi0 hz0 hz1 hz2 hz3 (by decide) _ _ _ rfl HO2.out _ _ _ [] rfl (.inr ⟨_, rfl, ?len3, ?rd3⟩) (by simp) (by unfold maxLen; omega) (by omega) hs3 ?_)
      case len3 => simp
      case rd3 =>
        intro j u hu
        cases hu
      intro v3 w3 hown3 hg3 hat3
      have HO3 := Lib.hid hown3
      have HG3 := Lib.hid hg3
      clear hown3 hg3 hat3
      obtain ⟨a3, c3, rfl⟩ := own_form5 HO3.out
      go_wp2_with fail
      go_ret2
      refine HEND.out _ _ ?_ HG3.out
      rw [HL0.out, HKi.out]
      simpa using HO3.out
    · have hvi' : (vc - i == 0) = false := by simp; omega
      go_wp2_with (at_builtin; refine wpList_append_any rfl _ _ TAs rfl w.heap.size TAc i0 z0 5 48 Try.underlying25 hi0 hz0 hz1 hz2 hz3 (by decide) _ _ _ rfl HO2.out _ (K.length - i) _ (flatA (lst M (K.drop i))) rfl (.inr ⟨_, rfl, ?len3, ?rd3⟩) (flatA_one _) (by unfold maxLen; omega) (by omega) hs3 ?_)
      case len3 => rw [flatA_len, lst_len, List.length_drop]
      case rd3 =>
        intro j u hu
        rw [LD.out] at hu
        rw [List.getElem?_drop] at hu
        try rw [Go.WideShapes.add_plain]
        have := HRD.out _ u hu
        simpa using this
      intro v3 w3 hown3 hg3 hat3
      have HO3 := Lib.hid hown3
      have HG3 := Lib.hid hg3
      clear hown3 hg3 hat3
      obtain ⟨a3, c3, rfl⟩ := own_form5 HO3.out
      go_wp2_with fail
      go_ret2
      refine HEND.out _ _ ?_ HG3.out
      simpa using HO3.out
end
end Go.Proofs.Ytialclecoamobaa.Ch
