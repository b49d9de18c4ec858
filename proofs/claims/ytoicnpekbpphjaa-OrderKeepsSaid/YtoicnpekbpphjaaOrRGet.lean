/- Package quittanceref12: Get. -/
import Derived.Test.YtoicnpekbpphjaaOrRRead2
import Derived.Test.YtoicnpekbpphjaaOrRPut
import Derived.Test.YtoicnpekbpphjaaOrPGet
import Derived.Deep.AppendLies
import Derived.Deep.RegionLaw
namespace Go.Proofs.Ytoicnpekbpphjaa.Or
open Go.RowKit Cm
/-- A row of fields of one's own. -/
def OwnF (base : Nat) (w : World) (v : Value) (L : List Fd) : Prop := w.ownsRow base 47 3 v L.length (cells3 L)
theorem OwnF.nil (base : Nat) (w : World) : OwnF base w (.slice none 0 0) [] := World.ownsRow_nil w _ _ _
theorem OwnF.later {w w' : World} {base : Nat} {v : Value} {L : List Fd} (h : OwnF base w v L) (hb : Below w.heap.size w w') : OwnF base w' v L := Rf.own_later h hb
theorem cells3_len (L : List Fd) : (cells3 L).length = L.length * 3 := by
  induction L with
  | nil => rfl
  | cons f t ih => simp [cells3] at ih ⊢; omega
theorem step_app_fds {ops : Array Oper} {o : Oper} {a : Act} {K : Act → World → Prop} {Q : Exit → Act → World → Prop} {E : Prop} {w : World} (hgd : o.guard = none) (s x : Operand)
    (ho : o.op = .call { callee := .builtin .append, args := #[s, x], argTypes := #[22, 22] })
    (base : Nat) (v : Value) (L : List Fd) (f : Fd) (hs : a.eval s = v) (g c : Nat) (hx : a.eval x = .slice (some ⟨g, 0, none⟩) 1 c) (hown : OwnF base w v L)
    (hf : FdAt w g f) (hlen : L.length ≤ 1000000) (hbase : base ≤ w.heap.size)
    (h : ∀ v' w', OwnF base w' v' (L ++ [f]) → Below base w w' → K (a.put o.dst v') w') : if Region.wanted o (yielded ops a.tmps) = true then Oper.wp Try.prog o a w K Q else E := by
  obtain ⟨i0, hi, hz0, hz1, hz2⟩ := info_parts infoField
  obtain ⟨h0, h1, h2, h3⟩ := hf
  refine step_append_lies w hgd s x 22 ho base 47 i0 (.agg #[.int .u64 0, .int .i64 0, .string ⟨#[]⟩]) 3 32 Try.underlying22 hi hz0 hz1 hz2 rfl (by decide) v L.length (cells3 L) hs hown ⟨g, 0, none⟩ 1 c [.int .u64 f.n, .int .i64 f.i, .string f.s] hx rfl ?_ ?_ (by omega) (by unfold maxLen; omega) (by omega) hbase w.heap.size rfl ?_
  · intro j u hj
    rw [Go.WideShapes.add_plain, Nat.zero_add]
    rcases j with _ | _ | _ | j
    · simp at hj; subst hj; exact h0
    · simp at hj; subst hj; exact h1
    · simp at hj; subst hj; exact h2
    · simp at hj
  · simp [Value.oneCell']
  · intro g' cap w' k1 k2 _ _
    refine h _ w' (by unfold OwnF; rw [List.length_append, cells3_snoc]; exact k1) ?_
    exact (Below.refl base w).grown k2 hbase fun k hk => (World.ownsRow.lt hown k hk).1
/-- The contract of read, of any letter. -/
theorem readf_c (c : UInt8) (F : ByteArray) (w : World) (hc : Letter c) (hF : 0 < F.size) (hF9 : F.size ≤ 5000) (h9 : c.toNat ≠ 115 → F.size ≤ 9) : Calls Try.prog 32 #[.int .u8 (c.toNat : Int), .string F] w (ReadRes c F.data.toList w) := by
  rcases hc with hc | hc | hc
  · exact read_n c F w hc hF (h9 (by omega))
  · exact read_i c F w hc hF (h9 (by omega))
  · exact read_s c F w hc hF hF9
theorem str_take (F : ByteArray) (k : Nat) : (F.extract 0 k).data.toList = F.data.toList.take k := by rw [ext_take]
theorem str_drop (F : ByteArray) (k : Nat) (_hk : k ≤ F.size) : (F.extract k F.size).data.toList = F.data.toList.drop k := by rw [ext_drop]
def InvG (K F : List UInt8) (LL : List Fd) (R : List UInt8) : Prop := ∀ L, takeAll K F = some L → ∃ L', takeAll (K.drop LL.length) R = some L' ∧ L = LL ++ L'
theorem inv_step {K F : List UInt8} {LL : List Fd} {R : List UInt8} {c : UInt8} (hI : InvG K F LL R) (hd : K.drop LL.length = c :: K.drop (LL.length + 1)) (hR : R ≠ []) {L : List Fd} (hL : takeAll K F = some L) :
    ∃ f r L2, takeF c R = some (f, r) ∧ takeAll (K.drop (LL.length + 1)) r = some L2 ∧ L = (LL ++ [f]) ++ L2 := by
  obtain ⟨L', h1, rfl⟩ := hI L hL
  rw [hd] at h1
  cases R with
  | nil => exact absurd rfl hR
  | cons b B =>
    rw [takeAll] at h1
    split at h1
    · cases h1
    · rename_i f r ht
      cases h2 : takeAll (K.drop (LL.length + 1)) r with
      | none => rw [h2] at h1; cases h1
      | some L2 =>
        rw [h2] at h1
        obtain rfl := Option.some.inj h1
        exact ⟨f, r, L2, ht, h2, by simp⟩
theorem enc_small {c : UInt8} {f : Fd} (hc : Letter c) (h : c.toNat ≠ 115) (hok : f.ok) : (enc c f).length ≤ 9 := by
  obtain ⟨n0, n1, i0, i1⟩ := hok
  rcases hc with hc | hc | hc
  · rw [enc_n hc]
    have := short8 (n := f.n.toNat) (by omega)
    unfold numL; rw [List.length_cons]; omega
  · rw [enc_i hc]
    split
    · have := short8 (n := (-f.i - 1).toNat) (by omega)
      unfold numL; rw [List.length_map, List.length_cons]; omega
    · have := short8 (n := f.i.toNat) (by omega)
      unfold numL; rw [List.length_cons]; omega
  · exact absurd hc h
theorem get_end {K F R : List UInt8} {LL : List Fd} (hk : kindsB K = true) (hF : ¬ 1024 < F.length) (hfine : Fine LL) (hI : InvG K F LL R) (hend : R = [] ∨ K.length ≤ LL.length) :
    (putF K LL = (F, 0) ∧ getF K F = (LL, 0)) ∨ (((putF K LL).2 ≠ 0 ∨ ((putF K LL).2 = 0 ∧ (putF K LL).1 ≠ F)) ∧ getF K F = ([], 5)) := by
  have hkl := kinds_letters hk
  cases ht : takeAll K F with
  | some L =>
    left
    obtain ⟨L', h1, rfl⟩ := hI L ht
    have hL' : L' = [] := by
      rcases hend with rfl | hl
      · cases hd : K.drop LL.length with
        | nil => rw [hd] at h1; simpa [takeAll] using h1.symm
        | cons c t => rw [hd] at h1; simpa [takeAll] using h1.symm
      · rw [List.drop_of_length_le hl] at h1
        cases R with
        | nil => simpa [takeAll] using h1.symm
        | cons => cases h1
    subst hL'
    rw [List.append_nil] at ht
    have hg := takeAll_sound K F LL hkl ht
    have hfit := good_fit hk hg
    refine ⟨?_, get_some hk hF ht⟩
    rw [put_ok hk hfit (by rw [hg.enc]; omega), hg.enc]
  | none =>
    right
    refine ⟨?_, get_none hk hF ht⟩
    by_cases hz : (putF K LL).2 = 0
    · right
      refine ⟨hz, fun he => ?_⟩
      have hfit : fitB K LL = true := by
        cases h : fitB K LL with
        | true => rfl
        | false => rw [put_unfit hk h] at hz; simp at hz
      have hl : (encAll K LL).length ≤ 1024 := by
        rcases Nat.lt_or_ge 1024 (encAll K LL).length with h | h
        · rw [put_long hk hfit h] at hz; simp at hz
        · exact h
      rw [put_ok hk hfit hl] at he
      have hg : Good K LL F := by
        have := fit_good hfit (fun f h => (hfine f h).1)
        rw [show encAll K LL = F from he] at this
        exact this
      rw [takeAll_whole K LL F hkl hg] at ht
      cases ht
    · exact .inl hz
theorem mk_data (F : ByteArray) : (⟨F.data.toList.toArray⟩ : ByteArray) = F := by cases F; simp
theorem rput_same {s F : ByteArray} {w : World} {a : Option Addr} {cap : Nat} {L : List Fd} (hL : Fds w a L) (hf : Fine L) (hs : s.size ≤ 1000000) (hl : L.length ≤ 1000000) (hp : putF s.data.toList L = (F.data.toList, 0)) :
    Calls Try.prog 11 #[.string s, .slice a L.length cap] w fun e w' => e = .returned (.tuple #[.string F, .int .i64 0]) ∧ Below w.heap.size w w' := by
  refine (rput_c s w a cap L hL hf hs hl).mono ?_
  rintro e w' ⟨rfl, hb⟩
  rw [hp]
  exact ⟨by simp only [mk_data], hb⟩
theorem rput_other {s F : ByteArray} {w : World} {a : Option Addr} {cap : Nat} {L : List Fd} (hL : Fds w a L) (hf : Fine L) (hs : s.size ≤ 1000000) (hl : L.length ≤ 1000000) (hp : (putF s.data.toList L).2 ≠ 0 ∨ ((putF s.data.toList L).2 = 0 ∧ (putF s.data.toList L).1 ≠ F.data.toList)) :
    Calls Try.prog 11 #[.string s, .slice a L.length cap] w fun e w' => ∃ (G : ByteArray) (q : Int), e = .returned (.tuple #[.string G, .int .i64 q]) ∧ ((q == 0) = false ∨ (q = 0 ∧ (G.toList == F.toList) = false)) ∧ Below w.heap.size w w' := by
  refine (rput_c s w a cap L hL hf hs hl).mono ?_
  rintro e w' ⟨rfl, hb⟩
  refine ⟨_, _, rfl, ?_, hb⟩
  rcases hp with h | ⟨h, h2⟩
  · left; simp [h]
  · right
    refine ⟨h, ?_⟩
    rw [ByteArray.toList_eq, ByteArray.toList_eq]
    simpa using h2
set_option maxRecDepth 100000 in
set_option maxHeartbeats 4000000 in
theorem rget_in (K F : ByteArray) (w : World) (hK : K.size ≤ 1000) (hk : kindsB K.data.toList = true) (hF : F.size ≤ 1024) :
    Calls Try.prog 17 #[.string K, .string F] w (GetRes K.data.toList F.data.toList w) := by
  have KK := Lib.hid (fun w => rkinds_c K w (by omega))
  rw [hk] at KK
  have HK := Lib.hid hk
  have q1 : (F.size : Int) ≤ 1024 := by omega
  have g1 : decide ((1024 : Int) < (F.size : Int)) = false := decide_eq_false (by omega)
  have HFL := Lib.hid (show ¬ 1024 < F.data.toList.length by simpa using hF)
  have HKL := Lib.hid (show K.data.toList.length = K.size by simp)
  clear hk
  go_enter Try.func17, Try.ntmps17
  go_wp2_with fail
  refine (KK.out _).mono ?_
  rintro e w1 ⟨rfl, rfl⟩
  go_wp2_with fail
  go_loopw [6, 7, 8, 9] (fun s6 s7 s8 _ wr => ∃ (LL : List Fd) (R : ByteArray), s7 = .string R ∧ s8 = .int .i64 (LL.length : Int) ∧ LL.length ≤ K.size ∧ R.size ≤ 1024 ∧ OwnF w.heap.size wr s6 LL ∧ Fine LL ∧ InvG K.data.toList F.data.toList LL R.data.toList ∧ Below w.heap.size w wr) (fun _ _ s8 _ _ => K.size - (intOf s8).toNat)
  case atStart => exact ⟨[], F, rfl, rfl, by simp, hF, OwnF.nil _ _, fun f h => by simp at h, fun L h => ⟨L, h, rfl⟩, Below.refl _ _⟩
  case round =>
    obtain ⟨LL, R, rfl, rfl, hlen, hR9, hO, hfine, hinv, hB⟩ := hrel
    have HO := Lib.hid hO
    have HFI := Lib.hid hfine
    have HI := Lib.hid hinv
    have HB := Lib.hid hB
    have hbr : w.heap.size ≤ wr.heap.size := hB.size
    clear hO hfine hinv hB
    by_cases hlt : LL.length < K.size
    · have p0 : (0 : Int) ≤ (LL.length : Int) := by omega
      have p1 : (LL.length : Int) < (K.size : Int) := by omega
      rcases size_pos_iff R with ⟨hRp, he, hRn⟩ | ⟨he, hRn⟩
      · have hks : LL.length < K.data.toList.length := by rw [HKL.out]; exact hlt
        have hd : K.data.toList.drop LL.length = K[LL.length] :: K.data.toList.drop (LL.length + 1) := by rw [List.drop_eq_getElem_cons hks, byte_at K _ hlt]
        have hL := kinds_at HK.out _ hks
        rw [byte_at K _ hlt] at hL
        have HST := Lib.hid (fun L h => inv_step (L := L) HI.out hd hRn h)
        obtain ⟨c, hc⟩ : ∃ c, K[LL.length] = c := ⟨_, rfl⟩
        have hcc : K[LL.length] = c := hc
        rw [hc] at HST hL
        have KS := Lib.hid (fun w => size_c c R w hL hRp (by omega))
        have HRN := Lib.hid hRn
        have HL := Lib.hid hL
        clear hd hc hRn hL
        go_wp2_with fail
        refine (KS.out _).mono ?_
        rintro e w2 ⟨k, rfl, hk1, hk9, hkt, rfl⟩
        have HKT := Lib.hid hkt
        obtain ⟨k, rfl⟩ : ∃ n : Nat, k = (n : Int) := ⟨k.toNat, by omega⟩
        clear hkt
        have hkr : ∀ f r, takeF c R.data.toList = some (f, r) → k = (enc c f).length ∧ k + r.length = R.size ∧ R.data.toList = enc c f ++ r ∧ fitsB c f = true ∧ f.ok := by
          intro f r h
          have h1 := HKT.out f r h
          obtain ⟨h2, h3, h4⟩ := take_sound HL.out h HRN.out
          have h5 := congrArg List.length h2
          rw [List.length_append] at h5
          have e : R.data.toList.length = R.size := by simp
          exact ⟨by omega, by omega, h2, h3, h4⟩
        have HKR := Lib.hid hkr
        clear hkr
        by_cases hbig : R.size < k
        · have HN := Lib.hid (show takeAll K.data.toList F.data.toList = none by
            cases h : takeAll K.data.toList F.data.toList with
            | none => rfl
            | some L =>
              obtain ⟨f, r, L2, ht, -, -⟩ := HST.out L h
              have := (HKR.out f r ht).2.1
              omega)
          have HR := Lib.hid (get_none HK.out HFL.out HN.out)
          have q2 : (R.size : Int) < (k : Int) := by omega
          clear hk1 hk9
          go_wp2_with fail
          go_ret2
          exact nil_res HR.out HB.out
        · by_cases hnine : c.toNat ≠ 115 ∧ 9 < k
          · have HN := Lib.hid (show takeAll K.data.toList F.data.toList = none by
              cases h : takeAll K.data.toList F.data.toList with
              | none => rfl
              | some L =>
                obtain ⟨f, r, L2, ht, -, -⟩ := HST.out L h
                obtain ⟨h1, -, -, -, h2⟩ := HKR.out f r ht
                have := enc_small HL.out hnine.1 h2
                omega)
            have HR := Lib.hid (get_none HK.out HFL.out HN.out)
            have q2 : (k : Int) ≤ (R.size : Int) := by omega
            have q3 : ((c.toNat : Int) != 115) = true := by rw [bne_iff_ne]; exact fun h => hnine.1 (by omega)
            have q4 : (9 : Int) < (k : Int) := by omega
            clear hk1 hk9 hnine
            go_wp2_with fail
            go_ret2
            exact nil_res HR.out HB.out
          · have q2 : (k : Int) ≤ (R.size : Int) := by omega
            have hxs : (R.extract 0 k).size = k := by rw [ByteArray.size_extract]; omega
            have KRD := Lib.hid (fun w => readf_c c (R.extract 0 k) w HL.out (by omega) (by omega) (fun h => by rw [hxs]; have : ¬ 9 < k := fun h9 => hnine ⟨h, h9⟩; omega))
            rw [str_take] at KRD
            have HXD := Lib.hid (str_drop R k (by omega))
            have HXS := Lib.hid (show (R.extract k R.size).size ≤ 1024 by rw [ByteArray.size_extract]; omega)
            have p2 : (0 : Int) ≤ (k : Int) := by omega
            clear hk9 hxs
            have HDC : ∃ z, z = false := ⟨_, rfl⟩
            by_cases h115 : c.toNat = 115
            · have q3 : ((c.toNat : Int) != 115) = false := by rw [h115]; rfl
              clear hnine h115 HDC
              go_wp2_with fail
              have HO5 := Lib.hid (show OwnF w.heap.size wr.drew u6 LL from HO.out)
              have HB5 := Lib.hid HB.out.drew
              go_region_law (first
                | (go_simp; go_at_call 32; refine (KRD.out _).mono ?_; rintro e w6 ⟨f, rfl, hok, hs5, hfx, b6⟩; have HO7 := Lib.hid ((HO5.out.later b6).later ((Below.refl _ w6).alloc (Nat.le_refl _) (.cells #[.int .u64 f.n, .int .i64 f.i, .string f.s] 47))); have HB6 := Lib.hid (HB5.out.trans (b6.mono HB5.out.size)); have HF7 := Lib.hid (fd_new w6 f 47); have hb6 : w.heap.size ≤ w6.heap.size := HB6.out.size; have HOK := Lib.hid hok; have HFX := Lib.hid hfx; have HS5 := Lib.hid hs5; clear b6 hfx hok hs5)
                | (refine step_app_fds rfl _ _ rfl w.heap.size _ LL f rfl w6.heap.size 1 rfl HO7.out HF7.out (by omega) (by simp; omega) ?_; intro v8 w8 h8 b8; have H8 := Lib.hid h8; have B8 := Lib.hid (HB6.out.trans (((Below.refl w.heap.size w6).alloc hb6 _).trans b8)); clear h8 b8))
              all_goals have HFINE := Lib.hid (show Fine (LL ++ [f]) by
                intro g hg
                rcases List.mem_append.1 hg with h | h
                · exact HFI.out g h
                · rw [List.mem_singleton] at h; subst h; exact ⟨HOK.out, by have := HS5.out; omega⟩)
              all_goals have HINV := Lib.hid (show InvG K.data.toList F.data.toList (LL ++ [f]) (R.extract k R.size).data.toList by
                intro L h
                obtain ⟨g, r, L2, ht, h2, rfl⟩ := HST.out L h
                obtain ⟨hk1', hk2', hRe, hfit, hgok⟩ := HKR.out g r ht
                have e1 : R.data.toList.take k = enc c g := by rw [hRe, hk1', List.take_left]
                have e2 : R.data.toList.drop k = r := by rw [hRe, hk1', List.drop_left]
                have hw := take_whole [] HL.out hfit hgok
                rw [List.append_nil] at hw
                have hfg : f = g := HFX.out g (by rw [e1]; exact hw)
                subst hfg
                refine ⟨L2, ?_, rfl⟩
                rw [HXD.out, e2, List.length_append]
                exact h2)
              all_goals go_wp2_with fail
              all_goals exact ⟨⟨LL ++ [f], R.extract k R.size, rfl, by simp, by simp; omega, HXS.out, H8.out, HFINE.out, HINV.out, B8.out⟩, by simp [intOf]; omega⟩
            · have q3 : ((c.toNat : Int) != 115) = true := by rw [bne_iff_ne]; exact fun h => h115 (by omega)
              have q4 : (k : Int) ≤ 9 := by have : ¬ 9 < k := fun h9 => hnine ⟨h115, h9⟩; omega
              clear hnine h115 HDC
              go_wp2_with fail
              have HO5 := Lib.hid (show OwnF w.heap.size wr.drew u6 LL from HO.out)
              have HB5 := Lib.hid HB.out.drew
              go_region_law (first
                | (go_simp; go_at_call 32; refine (KRD.out _).mono ?_; rintro e w6 ⟨f, rfl, hok, hs5, hfx, b6⟩; have HO7 := Lib.hid ((HO5.out.later b6).later ((Below.refl _ w6).alloc (Nat.le_refl _) (.cells #[.int .u64 f.n, .int .i64 f.i, .string f.s] 47))); have HB6 := Lib.hid (HB5.out.trans (b6.mono HB5.out.size)); have HF7 := Lib.hid (fd_new w6 f 47); have hb6 : w.heap.size ≤ w6.heap.size := HB6.out.size; have HOK := Lib.hid hok; have HFX := Lib.hid hfx; have HS5 := Lib.hid hs5; clear b6 hfx hok hs5)
                | (refine step_app_fds rfl _ _ rfl w.heap.size _ LL f rfl w6.heap.size 1 rfl HO7.out HF7.out (by omega) (by simp; omega) ?_; intro v8 w8 h8 b8; have H8 := Lib.hid h8; have B8 := Lib.hid (HB6.out.trans (((Below.refl w.heap.size w6).alloc hb6 _).trans b8)); clear h8 b8))
              all_goals have HFINE := Lib.hid (show Fine (LL ++ [f]) by
                intro g hg
                rcases List.mem_append.1 hg with h | h
                · exact HFI.out g h
                · rw [List.mem_singleton] at h; subst h; exact ⟨HOK.out, by have := HS5.out; omega⟩)
              all_goals have HINV := Lib.hid (show InvG K.data.toList F.data.toList (LL ++ [f]) (R.extract k R.size).data.toList by
                intro L h
                obtain ⟨g, r, L2, ht, h2, rfl⟩ := HST.out L h
                obtain ⟨hk1', hk2', hRe, hfit, hgok⟩ := HKR.out g r ht
                have e1 : R.data.toList.take k = enc c g := by rw [hRe, hk1', List.take_left]
                have e2 : R.data.toList.drop k = r := by rw [hRe, hk1', List.drop_left]
                have hw := take_whole [] HL.out hfit hgok
                rw [List.append_nil] at hw
                have hfg : f = g := HFX.out g (by rw [e1]; exact hw)
                subst hfg
                refine ⟨L2, ?_, rfl⟩
                rw [HXD.out, e2, List.length_append]
                exact h2)
              all_goals go_wp2_with fail
              all_goals exact ⟨⟨LL ++ [f], R.extract k R.size, rfl, by simp, by simp; omega, HXS.out, H8.out, HFINE.out, HINV.out, B8.out⟩, by simp [intOf]; omega⟩
      · have p3 : (0 : Int) ≤ 0 := by omega
        have HE := get_end HK.out HFL.out HFI.out HI.out (.inl hRn)
        obtain ⟨a, cap, rfl, hfds⟩ := own_fds HO.out
        rcases HE with ⟨hp, hg⟩ | ⟨hp, hg⟩
        · have KP := Lib.hid (fun cap => rput_same (cap := cap) hfds HFI.out (by omega) (by omega) hp)
          have HG := Lib.hid hg
          have HFD := Lib.hid hfds
          have z1 : (F.toList == F.toList) = true := by simp
          clear hp hg hfds
          go_wp2_with fail
          refine (KP.out _).mono ?_
          rintro e w2 ⟨rfl, b2⟩
          go_wp2_with fail
          go_ret2
          exact ⟨a, cap, by rw [HG.out]; rfl, by rw [HG.out]; exact HFD.out.later b2, HB.out.trans (b2.mono HB.out.size)⟩
        · have KP := Lib.hid (fun cap => rput_other (cap := cap) (F := F) hfds HFI.out (by omega) (by omega) hp)
          have HG := Lib.hid hg
          clear hp hg hfds
          go_wp2_with fail
          refine (KP.out _).mono ?_
          rintro e w2 ⟨G, q, rfl, hq | ⟨rfl, hq⟩, b2⟩
          · have z1 : (q != 0) = true := by simpa using hq
            go_wp2_with fail
            go_ret2
            exact nil_res HG.out (HB.out.trans (b2.mono HB.out.size))
          · go_wp2_with fail
            go_ret2
            exact nil_res HG.out (HB.out.trans (b2.mono HB.out.size))
    · have p1 : ¬ (LL.length : Int) < (K.size : Int) := by omega
      have HE := get_end HK.out HFL.out HFI.out HI.out (.inr (by rw [HKL.out]; omega))
      obtain ⟨a, cap, rfl, hfds⟩ := own_fds HO.out
      rcases HE with ⟨hp, hg⟩ | ⟨hp, hg⟩
      · have KP := Lib.hid (fun cap => rput_same (cap := cap) hfds HFI.out (by omega) (by omega) hp)
        have HG := Lib.hid hg
        have HFD := Lib.hid hfds
        have z1 : (F.toList == F.toList) = true := by simp
        clear hp hg hfds
        go_wp2_with fail
        refine (KP.out _).mono ?_
        rintro e w2 ⟨rfl, b2⟩
        go_wp2_with fail
        go_ret2
        exact ⟨a, cap, by rw [HG.out]; rfl, by rw [HG.out]; exact HFD.out.later b2, HB.out.trans (b2.mono HB.out.size)⟩
      · have KP := Lib.hid (fun cap => rput_other (cap := cap) (F := F) hfds HFI.out (by omega) (by omega) hp)
        have HG := Lib.hid hg
        clear hp hg hfds
        go_wp2_with fail
        refine (KP.out _).mono ?_
        rintro e w2 ⟨G, q, rfl, hq | ⟨rfl, hq⟩, b2⟩
        · have z1 : (q != 0) = true := by simpa using hq
          go_wp2_with fail
          go_ret2
          exact nil_res HG.out (HB.out.trans (b2.mono HB.out.size))
        · go_wp2_with fail
          go_ret2
          exact nil_res HG.out (HB.out.trans (b2.mono HB.out.size))
theorem rget_no (K F : ByteArray) (w : World) (hK : K.size ≤ 100000) (hF : F.size ≤ 100000) (h : kindsB K.data.toList = false ∨ (kindsB K.data.toList = true ∧ 1024 < F.size)) :
    Calls Try.prog 17 #[.string K, .string F] w (GetRes K.data.toList F.data.toList w) := by
  have KK := Lib.hid (fun w => rkinds_c K w (by omega))
  rcases h with h | ⟨h, hl⟩
  · have HR := Lib.hid (get_kinds (B := F.data.toList) h)
    rw [h] at KK
    clear h
    go_enter Try.func17, Try.ntmps17
    go_wp2_with fail
    refine (KK.out _).mono ?_
    rintro e w1 ⟨rfl, rfl⟩
    go_wp2_with fail
    go_ret2
    exact nil_res HR.out (Below.refl _ _)
  · have HR := Lib.hid (get_long (B := F.data.toList) h (by simpa using hl))
    have q1 : (1024 : Int) < (F.size : Int) := by omega
    rw [h] at KK
    clear h hl
    go_enter Try.func17, Try.ntmps17
    go_wp2_with fail
    refine (KK.out _).mono ?_
    rintro e w1 ⟨rfl, rfl⟩
    go_wp2_with fail
    go_ret2
    exact nil_res HR.out (Below.refl _ _)
end Go.Proofs.Ytoicnpekbpphjaa.Or
