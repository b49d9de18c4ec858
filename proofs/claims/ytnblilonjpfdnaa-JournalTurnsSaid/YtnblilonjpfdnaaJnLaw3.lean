/- The statement of journal on turning. -/
import Derived.Test.YtnblilonjpfdnaaJnLaw1
namespace Go.Proofs.Ytnblilonjpfdnaa.Jn
open Go Go.RowKit Ck
theorem step_append {P : Program} {ops : Array Oper} {o : Oper} {a : Act} {w w' : World} {Kq : Act → World → Prop} {Q : Exit → Act → World → Prop} {E : Prop} (hg : o.guard = none) (s x : Operand) (t : TypeId)
    (ho : o.op = .call { callee := .builtin .append, args := #[s, x], argTypes := #[t, t] }) (v : Value) (A : Option Addr) (m c : Nat) (v' : Value) (hs : a.eval s = v) (hx : a.eval x = .slice A m c)
    (hr : (Builtin.append_ #[t, t] o.type #[v, .slice A m c]).run P w = .ok v' w') (h : Kq (a.put o.dst v') w') : if Region.wanted o (yielded ops a.tmps) = true then o.wp P a w Kq Q else E := by
  simp only [Region.wanted, hg, if_true]
  unfold Oper.wp execOp
  simp only [ho, resolve, invoke, builtin, Sem.run_bind, Sem.run_pure, Result.andThen_ok, List.map_toArray, List.map_cons, List.map_nil, hs, hx, hr]
  exact h
theorem neg_neg (L : List Ln) : (L.map Ln.neg).map Ln.neg = L := by
  rw [List.map_map]
  have : Ln.neg ∘ Ln.neg = id := by
    funext x
    obtain ⟨a, b, c, n⟩ := x
    show Ln.mk a b c (- -n) = _
    rw [Int.neg_neg]; rfl
  rw [this, List.map_id]
theorem chk_turn {d k day : Int} {L : List Ln} (h : chkM d k L = 0) (hd : dayB day = true) : chkM day k (L.map Ln.neg) = 0 := by
  obtain ⟨h1, h2, h3⟩ := chk_ok' h
  have h4 : badB day k (L.map Ln.neg) = false := by
    unfold badB at *
    rw [List.length_map, hd]
    simp at h1 ⊢
    omega
  unfold chkM
  rw [if_neg (by rw [h4, all_neg h2]; simp), if_neg (by rw [sumL_neg, h3]; simp)]
theorem chk_day {d k : Int} {L : List Ln} (h : chkM d k L = 0) : dayB d = true ∧ 2 ≤ L.length ∧ L.length ≤ 64 := by
  obtain ⟨h1, _⟩ := chk_ok' h
  unfold badB at h1
  simp at h1
  exact ⟨h1.1.1.1, by omega, by omega⟩
theorem up_pos {L : List Ln} (h : L.all Ln.okB = true) (h0 : sumL L = 0) (hl : 0 < L.length) : 0 < upS L := by
  have h1 := up_down L h
  refine Classical.byContradiction fun hn => ?_
  have hu : upS L = 0 := by omega
  have key : ∀ L : List Ln, L.all Ln.okB = true → upS L = 0 → L ≠ [] → sumL L < 0 := by
    intro L
    induction L with
    | nil => intro _ _ h; exact absurd rfl h
    | cons x L ih =>
      intro h hu _
      rw [List.all_cons, Bool.and_eq_true] at h
      have h3 := (okB_amt h.1).1
      have h4 := (up_down L h.2).2
      have e : upS (x :: L) = (if pUp x.amt = true then x.amt else 0) + upS L := by
        unfold upS
        rw [picked_cons]
        split
        · rw [List.sum_cons]
        · omega
      have e2 : sumL (x :: L) = x.amt + sumL L := by unfold sumL; rw [List.map_cons, List.sum_cons]
      rw [e] at hu
      have hx : ¬ 0 < x.amt := fun hp => by
        rw [if_pos (show pUp x.amt = true by unfold pUp; simpa using hp)] at hu
        omega
      rw [if_neg (show ¬ pUp x.amt = true by unfold pUp; simpa using hx)] at hu
      rw [e2]
      by_cases hL : L = []
      · subst hL
        show x.amt + 0 < 0
        omega
      · have := ih h.2 (by omega) hL
        omega
  have := key L h hu (fun e => by rw [e] at hl; simp at hl)
  omega
theorem ne_neg {L : List Ln} (h : ∀ x ∈ L, InR x.key) : ∀ x ∈ L ++ L.map Ln.neg, InR x.key := fun x hx => by
  rcases List.mem_append.1 hx with hx | hx
  · exact h x hx
  · obtain ⟨y, hy, rfl⟩ := List.mem_map.1 hx
    exact h y hy
section
set_option maxRecDepth 100000
set_option maxHeartbeats 3200000
theorem turns_law (d k s : Int) (L : List Ln) (a : Option Addr) (cap : Nat) (day : Int) (w : World) (h : LnC w cap a L) (hf : ∀ x ∈ L, x.Fits) (hl : L.length ≤ maxLen) : Calls Try.prog 6 #[.agg #[.int .i64 d, .int .u8 k, .int .u64 s, .slice a L.length cap], .int .i64 day] w fun e w' => e = .returned (.bool true) ∧ Below w.heap.size w w' := by
  have KH := Lib.hid head_c
  have HB0 : Hid (Below w.heap.size w (w.alloc (.cells #[.int .i64 d, .int .u8 k, .int .u64 s, .slice a L.length cap] TEn))) := (Below.refl _ w).alloc (Nat.le_refl _) _
  have RE0 : Hid (Rw (w.alloc (.cells #[.int .i64 d, .int .u8 k, .int .u64 s, .slice a L.length cap] TEn)) w.heap.size TEn [.int .i64 d, .int .u8 k, .int .u64 s, .slice a L.length cap]) := Rw.new w [.int .i64 d, .int .u8 k, .int .u64 s, .slice a L.length cap] TEn
  have H := Lib.hid h.1
  have HR : Hid (∀ x ∈ L, InR x.key) := fun x hx => (hf x hx).1
  have HINF := Lib.hid infoEn
  have hl9 : (L.length : Int) ≤ 9223372036854775807 := by unfold maxLen at hl; omega
  clear h hf hl
  go_enter Try.func6, Try.ntmps6
  go_upto_region 1 with (fail)
  obtain ⟨be, hbe⟩ : ∃ be, be = w.heap.size := ⟨_, rfl⟩
  have HBE := Lib.hid hbe
  rw [← hbe] at RE0 ⊢
  clear hbe
  generalize w.alloc (.cells #[.int .i64 d, .int .u8 k, .int .u64 s, .slice a L.length cap] TEn) = W2 at HB0 RE0 ⊢
  have e3 : W2.cell? ⟨be, 3, none⟩ = some (.slice a L.length cap) := RE0.out.cell 3
  by_cases hb1 : 100 < (L.length : Int)
  · go_wp2_with fail
    refine (KH.out _).mono ?_
    rintro _ w1 ⟨rfl, hb2⟩
    have HB1 : Hid (Below w.heap.size w w1) := HB0.out.trans (hb2.mono HB0.out.size)
    clear hb2 e3
    go_wp2_with fail
    go_ret
    exact ⟨rfl, HB1.out⟩
  have HSM : Hid (L.length ≤ 100) := by show _ ≤ _; omega
  have hs1 : (L.length : Int) ≤ 100 := by omega
  clear hb1 hl9
  have e0 : W2.cell? ⟨be, 0, none⟩ = some (.int .i64 d) := RE0.out.cell 0
  have e1 : W2.cell? ⟨be, 1, none⟩ = some (.int .u8 k) := RE0.out.cell 1
  have e2 : W2.cell? ⟨be, 2, none⟩ = some (.int .u64 s) := RE0.out.cell 2
  have KC := Lib.hid (check_c d k s L a cap W2 (H.out.later HB0.out) (by have := HSM.out; omega))
  obtain ⟨ch, hch⟩ : ∃ ch, ch = chkM d k L := ⟨_, rfl⟩
  rw [← hch] at KC
  have HCH := Lib.hid hch
  clear hch
  go_wp2_with fail
  refine KC.out.mono ?_
  rintro _ W3 ⟨rfl, hb3⟩
  have HB3 : Hid (Below w.heap.size w W3) := HB0.out.trans (hb3.mono HB0.out.size)
  have RE3 := Lib.hid (RE0.out.later hb3)
  clear e0 e1 e2 e3 KC hb3 HB0 RE0
  have e0 : W3.cell? ⟨be, 0, none⟩ = some (.int .i64 d) := RE3.out.cell 0
  have e1 : W3.cell? ⟨be, 1, none⟩ = some (.int .u8 k) := RE3.out.cell 1
  have e2 : W3.cell? ⟨be, 2, none⟩ = some (.int .u64 s) := RE3.out.cell 2
  have e3 : W3.cell? ⟨be, 3, none⟩ = some (.slice a L.length cap) := RE3.out.cell 3
  by_cases hc0 : ch = 0
  · subst hc0
    have HC0 := Lib.hid HCH.out.symm
    have HOK := Lib.hid (chk_ok' HC0.out)
    have HDY := Lib.hid (chk_day HC0.out)
    clear HCH
    have KT := Lib.hid (totals_c d k s L a cap W3 (H.out.later HB3.out) (by have := HSM.out; omega))
    have HTM : Hid (totM d k L = if Ar.ok (upS L) = true then (upS L, 0) else (0, 2)) := by show _ = _; unfold totM; rw [if_neg (by simp [HC0.out])]
    have HUP : Hid (0 < upS L) := up_pos HOK.out.2.1 HOK.out.2.2 (by have := HDY.out.2; omega)
    rw [HTM.out] at KT
    generalize upS L = u at KT HUP
    have HGO : Hid (∃ t n, (n = 2 ∨ (n = 0 ∧ 0 < t)) ∧ Calls Try.prog 12 #[.agg #[.int .i64 d, .int .u8 k, .int .u64 s, .slice a L.length cap]] W3 fun e w' => e = .returned (.tuple #[.int .i64 t, .int .i64 t, .int .i64 n]) ∧ Below W3.heap.size W3 w') := by
      cases ho : Ar.ok u with
      | true =>
        rw [ho, if_pos rfl] at KT
        exact ⟨u, 0, .inr ⟨rfl, HUP.out⟩, KT.out⟩
      | false =>
        rw [ho, if_neg (by decide)] at KT
        exact ⟨0, 2, .inl rfl, KT.out⟩
    clear KT HTM HUP
    obtain ⟨t, tn, htn, hkt⟩ := HGO.out
    have KT := Lib.hid hkt
    clear hkt HGO
    go_wp2_with fail
    refine KT.out.mono ?_
    rintro _ W4 ⟨rfl, hb4⟩
    have HB4 : Hid (Below w.heap.size w W4) := HB3.out.trans (hb4.mono HB3.out.size)
    have RE4 := Lib.hid (RE3.out.later hb4)
    clear e0 e1 e2 e3 KT hb4 HB3 RE3
    have e0 : W4.cell? ⟨be, 0, none⟩ = some (.int .i64 d) := RE4.out.cell 0
    have e1 : W4.cell? ⟨be, 1, none⟩ = some (.int .u8 k) := RE4.out.cell 1
    have e2 : W4.cell? ⟨be, 2, none⟩ = some (.int .u64 s) := RE4.out.cell 2
    have e3 : W4.cell? ⟨be, 3, none⟩ = some (.slice a L.length cap) := RE4.out.cell 3
    have KR := Lib.hid (reverse_c d k s L a cap day W4 (H.out.later HB4.out) (by have := HSM.out; omega))
    rcases htn with rfl | ⟨rfl, ht0⟩
    · go_wp2_with fail
      refine KR.out.mono ?_
      rintro e9 W5 ⟨hb5, hr5⟩
      have HB5 : Hid (Below w.heap.size w W5) := HB4.out.trans (hb5.mono HB4.out.size)
      have RE5 := Lib.hid (RE4.out.later hb5)
      clear KR hb5 HB4 RE4 e0 e1 e2 e3
      cases hdb : dayB day with
      | false =>
        have he : e9 = .returned (.tuple #[.agg #[.int .i64 0, .int .u8 0, .int .u64 0, .slice none 0 0], .int .i64 2]) := by
          rcases hr5 with ⟨h0, _⟩ | ⟨_, _, he⟩ | ⟨_, h0, _⟩
          · exact absurd HC0.out h0
          · exact he
          · rw [hdb] at h0; cases h0
        subst he
        clear hr5
        have hbd : day < 1 ∨ 3652059 < day := by
          unfold dayB at hdb
          by_cases h1 : 1 ≤ day
          · by_cases h2 : day ≤ 3652059
            · simp [h1, h2] at hdb
            · right; omega
          · left; omega
        rcases hbd with hd1 | hd1
        · go_wp2_with fail
          refine (KH.out _).mono ?_
          rintro _ w9 ⟨rfl, hb9⟩
          have HB9 : Hid (Below w.heap.size w w9) := (HB5.out.alloc HB5.out.size _).trans (hb9.mono (HB5.out.alloc HB5.out.size _).size)
          clear hb9
          go_wp2_with fail
          go_ret
          exact ⟨rfl, HB9.out⟩
        · go_wp2_with fail
          refine (KH.out _).mono ?_
          rintro _ w9 ⟨rfl, hb9⟩
          have HB9 : Hid (Below w.heap.size w w9) := (HB5.out.alloc HB5.out.size _).trans (hb9.mono (HB5.out.alloc HB5.out.size _).size)
          clear hb9
          go_wp2_with fail
          go_ret
          exact ⟨rfl, HB9.out⟩
      | true =>
        have hv : ∃ v, e9 = .returned (.tuple #[.agg #[.int .i64 day, .int .u8 k, .int .u64 s, v], .int .i64 0]) ∧ W5.ownsRow W4.heap.size TLine 4 v L.length (flatL (L.map Ln.neg)) := by
          rcases hr5 with ⟨h0, _⟩ | ⟨_, h0, _⟩ | ⟨_, _, h1⟩
          · exact absurd HC0.out h0
          · rw [hdb] at h0; cases h0
          · exact h1
        obtain ⟨v, rfl, hown5⟩ := hv
        have HDB := Lib.hid hdb
        obtain ⟨G, hG⟩ : ∃ G, G = L.map Ln.neg := ⟨_, rfl⟩
        have HGL : Hid (G.length = L.length) := by show _ = _; rw [hG, List.length_map]
        have HGC : Hid (chkM day k G = 0) := by show _ = _; rw [hG]; exact chk_turn HC0.out hdb
        have HGN : Hid (G.map Ln.neg = L) := by show _ = _; rw [hG]; exact neg_neg L
        have HGT : Hid (tokB (L ++ G) = true) := by show _ = _; rw [hG]; exact tok_turn HOK.out.2.1
        have HGZ : Hid (∀ q, ksum (L ++ G) q = 0) := fun q => by rw [hG]; exact sum_turn L q
        have HGI : Hid (∀ x ∈ L ++ G, InR x.key) := by rw [hG]; exact ne_neg HR.out
        rw [← hG, ← HGL.out] at hown5
        clear hG hr5 hdb
        obtain ⟨ra, rc, hv, hlns5, _⟩ := lns_own hown5
        rw [HGL.out] at hv
        subst hv
        have HG5 := Lib.hid hlns5
        clear hown5 hlns5
        go_upto_region 10 with (fail)
        have hb1 : Below W5.heap.size W5 (W5.alloc (.cells #[.int .i64 day, .int .u8 k, .int .u64 s, .slice ra L.length rc] TEn)) := (Below.refl _ W5).alloc (Nat.le_refl _) _
        have HB6 : Hid (Below w.heap.size w (W5.alloc (.cells #[.int .i64 day, .int .u8 k, .int .u64 s, .slice ra L.length rc] TEn))) := HB5.out.trans (hb1.mono HB5.out.size)
        have RE6 := Lib.hid (RE5.out.later hb1)
        have HG6 := Lib.hid (HG5.out.later hb1)
        have RR6 : Hid (Rw (W5.alloc (.cells #[.int .i64 day, .int .u8 k, .int .u64 s, .slice ra L.length rc] TEn)) W5.heap.size TEn [.int .i64 day, .int .u8 k, .int .u64 s, .slice ra L.length rc]) := Rw.new W5 [.int .i64 day, .int .u8 k, .int .u64 s, .slice ra L.length rc] TEn
        obtain ⟨br, hbr⟩ : ∃ br, br = W5.heap.size := ⟨_, rfl⟩
        rw [← hbr] at RR6 ⊢
        generalize W5.alloc (.cells #[.int .i64 day, .int .u8 k, .int .u64 s, .slice ra L.length rc] TEn) = W6 at HB6 RE6 HG6 RR6 ⊢
        clear hb1 hbr HB5 RE5 HG5
        have e0 : W6.cell? ⟨be, 0, none⟩ = some (.int .i64 d) := RE6.out.cell 0
        have r0 : W6.cell? ⟨br, 0, none⟩ = some (.int .i64 day) := RR6.out.cell 0
        have r1 : W6.cell? ⟨br, 1, none⟩ = some (.int .u8 k) := RR6.out.cell 1
        have r2 : W6.cell? ⟨br, 2, none⟩ = some (.int .u64 s) := RR6.out.cell 2
        have r3 : W6.cell? ⟨br, 3, none⟩ = some (.slice ra L.length rc) := RR6.out.cell 3
        have KV : Hid (Calls Try.prog 14 #[.agg #[.int .i64 day, .int .u8 k, .int .u64 s, .slice ra L.length rc], .int .i64 d] W6 fun e w' => ∃ v, e = .returned (.tuple #[.agg #[.int .i64 d, .int .u8 k, .int .u64 s, v], .int .i64 0]) ∧ w'.ownsRow W6.heap.size TLine 4 v L.length (flatL L) ∧ Below W6.heap.size W6 w') := by
          have h1 := reverse_c day k s G ra rc d W6 HG6.out (by rw [HGL.out]; have := HSM.out; omega)
          rw [HGL.out] at h1
          refine h1.mono ?_
          rintro e w' ⟨hb, ⟨h0, _⟩ | ⟨_, h0, _⟩ | ⟨_, _, v, h2, h3⟩⟩
          · exact absurd HGC.out h0
          · rw [HDY.out.1] at h0; cases h0
          · rw [HGN.out, HGL.out] at h3
            exact ⟨v, h2, h3, hb⟩
        go_wp2_with fail
        refine KV.out.mono ?_
        rintro _ W7 ⟨v, rfl, hown7, hb7⟩
        have HB7 : Hid (Below w.heap.size w W7) := HB6.out.trans (hb7.mono HB6.out.size)
        have RE7 := Lib.hid (RE6.out.later hb7)
        have RR7 := Lib.hid (RR6.out.later hb7)
        have HG7 := Lib.hid (HG6.out.later hb7)
        obtain ⟨ba, bc, hv, hlns7, _⟩ := lns_own hown7
        subst hv
        have HL7 := Lib.hid hlns7
        clear e0 r0 r1 r2 r3 KV hown7 hlns7 hb7 HB6 RE6 RR6 HG6
        go_upto_region 13 with (fail)
        have hb1 : Below W7.heap.size W7 (W7.alloc (.cells #[.int .i64 d, .int .u8 k, .int .u64 s, .slice ba L.length bc] TEn)) := (Below.refl _ W7).alloc (Nat.le_refl _) _
        have HB8 : Hid (Below w.heap.size w (W7.alloc (.cells #[.int .i64 d, .int .u8 k, .int .u64 s, .slice ba L.length bc] TEn))) := HB7.out.trans (hb1.mono HB7.out.size)
        have RE8 := Lib.hid (RE7.out.later hb1)
        have RR8 := Lib.hid (RR7.out.later hb1)
        have HG8 := Lib.hid (HG7.out.later hb1)
        have HL8 := Lib.hid (HL7.out.later hb1)
        have RK8 : Hid (Rw (W7.alloc (.cells #[.int .i64 d, .int .u8 k, .int .u64 s, .slice ba L.length bc] TEn)) W7.heap.size TEn [.int .i64 d, .int .u8 k, .int .u64 s, .slice ba L.length bc]) := Rw.new W7 [.int .i64 d, .int .u8 k, .int .u64 s, .slice ba L.length bc] TEn
        obtain ⟨bk, hbk⟩ : ∃ bk, bk = W7.heap.size := ⟨_, rfl⟩
        rw [← hbk] at RK8 ⊢
        generalize W7.alloc (.cells #[.int .i64 d, .int .u8 k, .int .u64 s, .slice ba L.length bc] TEn) = W8 at HB8 RE8 RR8 HG8 HL8 RK8 ⊢
        clear hb1 hbk HB7 RE7 RR7 HG7 HL7
        have HSOM : Hid (∃ ab ao, a = some ⟨ab, ao, none⟩) := by
          obtain ⟨b, o, h1, _⟩ := H.out 0 (by have := HDY.out.2; omega)
          exact ⟨b, o, h1⟩
        obtain ⟨ab, ao, ha⟩ := HSOM.out
        have HSOM2 : Hid (∃ rb ro, ra = some ⟨rb, ro, none⟩) := by
          obtain ⟨b, o, h1, _⟩ := HG8.out 0 (by rw [HGL.out]; have := HDY.out.2; omega)
          exact ⟨b, o, h1⟩
        obtain ⟨rb, ro, hra⟩ := HSOM2.out
        subst ha hra
        have HNA : Hid (∀ u, Below W8.heap.size W8 u → ∀ j v, (flatL L)[j]? = some v → u.cell? ((⟨ab, ao, none⟩ : Addr).add j) = some v) := fun u hu => lns_news (H.out.later (HB8.out.trans (hu.mono HB8.out.size)))
        have HNG : Hid (∀ u, Below W8.heap.size W8 u → ∀ j v, (flatL G)[j]? = some v → u.cell? ((⟨rb, ro, none⟩ : Addr).add j) = some v) := fun u hu => lns_news (HG8.out.later hu)
        have HFA : Hid ((flatL L).length = L.length * 4) := flatL_len L
        have HFG : Hid ((flatL G).length = L.length * 4) := by show _ = _; rw [flatL_len, HGL.out]
        have HFF : Hid (flatL L ++ flatL G = flatL (L ++ G)) := by show _ = _; unfold flatL; rw [List.flatMap_append]
        obtain ⟨i4, z4, hk0, hk1, hk2, hk3, hk4⟩ := info_ln
        have HSC : Hid (∀ u, Below W8.heap.size W8 u → (Below W8.heap.size W8 u ∧ u.cell? ⟨be, 3, none⟩ = some (.slice (some ⟨ab, ao, none⟩) L.length cap) ∧ u.cell? ⟨br, 3, none⟩ = some (.slice (some ⟨rb, ro, none⟩) L.length rc))) := fun u hu => ⟨hu, (RE8.out.later hu).cell 3, (RR8.out.later hu).cell 3⟩
        have KTD : Hid (∀ u ya yc, Lns u ya (L ++ G) → Calls Try.prog 22 #[.slice ya (L.length + L.length) yc] u fun e w' => ∃ ta tc, e = .returned (.tuple #[.slice ta 0 tc, .int .i64 0]) ∧ Below u.heap.size u w') := fun u ya yc hy => by
          have h1 := tidy_c (L ++ G) ya yc u hy HGI.out (by rw [List.length_append, HGL.out]; have := HSM.out; omega)
          rw [List.length_append, HGL.out] at h1
          refine h1.mono ?_
          rintro e w' ⟨hb, ⟨_, T, v, hT, h2, h3, _⟩ | ⟨h0, _⟩⟩
          · obtain rfl := hT.none HGZ.out
            obtain ⟨ta, tc, rfl⟩ := own_any h3
            exact ⟨ta, tc, h2, hb⟩
          · rw [HGT.out] at h0; cases h0
        refine wp_region_held_drew (S := (fun u => (Below W8.heap.size W8 u ∧ u.cell? ⟨be, 3, none⟩ = some (.slice (some ⟨ab, ao, none⟩) L.length cap) ∧ u.cell? ⟨br, 3, none⟩ = some (.slice (some ⟨rb, ro, none⟩) L.length rc)))) (by kernel_rfl) ?_ (fun hHeld => ?_)
        · exact HSC.out _ (Below.refl _ W8).drew
        refine wpAnyH_take (i := 1) (oi := { dst := some 84, op := Op.fieldAddr 25 (Operand.tmp 2) 3, type := 0, pos := "law.go:119", after := #[], guard := none }) (v := (.pointer (some ⟨be, 3, none⟩))) rfl (by kernel_rfl) (by kernel_rfl) (by kernel_rfl) (fun _ _ _ h => h) (Or.inl ⟨by rfl, ?_⟩) hHeld ?_
        · rintro u ⟨hb, p0, p1⟩
          go_simp <;> first | rfl | kernel_rfl
        try simp only [Act.put, List.setIfInBounds_toArray, List.set_cons_zero, List.set_cons_succ]
        refine wpAnyH_take (i := 2) (oi := { dst := some 85, op := Op.load 23 (Operand.tmp 84), type := 23, pos := "law.go:119", after := #[{ on := 1, ground := Ground.data }], guard := none }) (v := (.slice (some ⟨ab, ao, none⟩) L.length cap)) rfl (by kernel_rfl) (by kernel_rfl) (by kernel_rfl) (fun _ _ _ h => h) (Or.inl ⟨by rfl, ?_⟩) hHeld ?_
        · rintro u ⟨hb, p0, p1⟩
          go_simp <;> first | rfl | kernel_rfl
        try simp only [Act.put, List.setIfInBounds_toArray, List.set_cons_zero, List.set_cons_succ]
        refine wpAnyH_take (i := 4) (oi := { dst := some 87, op := Op.fieldAddr 25 (Operand.tmp 10) 3, type := 0, pos := "law.go:119", after := #[], guard := none }) (v := (.pointer (some ⟨br, 3, none⟩))) rfl (by kernel_rfl) (by kernel_rfl) (by kernel_rfl) (fun _ _ _ h => h) (Or.inl ⟨by rfl, ?_⟩) hHeld ?_
        · rintro u ⟨hb, p0, p1⟩
          go_simp <;> first | rfl | kernel_rfl
        try simp only [Act.put, List.setIfInBounds_toArray, List.set_cons_zero, List.set_cons_succ]
        refine wpAnyH_take (i := 5) (oi := { dst := some 88, op := Op.load 23 (Operand.tmp 87), type := 23, pos := "law.go:119", after := #[{ on := 4, ground := Ground.data }], guard := none }) (v := (.slice (some ⟨rb, ro, none⟩) L.length rc)) rfl (by kernel_rfl) (by kernel_rfl) (by kernel_rfl) (fun _ _ _ h => h) (Or.inl ⟨by rfl, ?_⟩) hHeld ?_
        · rintro u ⟨hb, p0, p1⟩
          go_simp <;> first | rfl | kernel_rfl
        try simp only [Act.put, List.setIfInBounds_toArray, List.set_cons_zero, List.set_cons_succ]
        refine wpAnyH_ready (rs := [0]) (by kernel_rfl) (by simp) ?_
        refine AllReadyH.cons (o := { dst := some 83, op := Op.buildSlice 23 0 #[], type := 23, pos := "law.go:119", after := #[], guard := none }) rfl (fun Kq hKq => ?_) AllReadyH.nil
        go_simp
        have O1 : Hid (((W8.alloc (.cells #[] TLine)).drew).ownsRow W8.heap.size TLine 4 (.slice (some ⟨W8.heap.size, 0, none⟩) 0 0) 0 []) := Ch.own_zero W8 TLine W8.heap.size 4 (Nat.le_refl _)
        have B1 : Hid (Below W8.heap.size W8 ((W8.alloc (.cells #[] TLine)).drew)) := ((Below.refl _ W8).alloc (Nat.le_refl _) _).drew
        refine hKq.out _ _ ((HSC.out _ B1.out)) (fun hHeld0 => ?_)
        clear hKq Kq
        try simp only [Act.put, List.setIfInBounds_toArray, List.set_cons_zero, List.set_cons_succ]
        generalize (W8.alloc (.cells #[] TLine)).drew = V1 at O1 B1 hHeld0 ⊢
        refine wpAnyH_ready (rs := [3]) (by kernel_rfl) (by simp) ?_
        refine AllReadyH.cons (o := { dst := some 86, op := Op.call { callee := Callee.builtin Builtin.append, args := #[Operand.tmp 83, Operand.tmp 85], argTypes := #[23, 23] }, type := 23, pos := "law.go:119", after := #[{ on := 0, ground := Ground.data }, { on := 2, ground := Ground.data }], guard := none }) rfl (fun Kq hKq => ?_) AllReadyH.nil
        obtain ⟨y2, V2, hrun, hown, hgrow, _, _⟩ := run_append_own_at (P := Try.prog) (w := V1) W8.heap.size TLines TLines TLine i4 z4 4 32 Try.underlying23 hk0 hk1 hk2 hk3 hk4 (by decide) _ 0 ([]) O1.out ⟨ab, ao, none⟩ L.length cap (flatL L) HFA.out (HNA.out _ B1.out) (flatL_one _) (by have := HSM.out; unfold maxLen; omega) (by have := HSM.out; omega) B1.out.size
        refine step_append rfl _ _ TLines rfl (.slice (some ⟨W8.heap.size, 0, none⟩) 0 0) (some ⟨ab, ao, none⟩) L.length cap y2 (by rfl) (by rfl) hrun ?_
        have B2 : Hid (Below W8.heap.size W8 V2) := B1.out.grown hgrow B1.out.size (fun j hj => (O1.out.lt j hj).1)
        have O2 := Lib.hid hown
        refine hKq.out _ _ (HSC.out _ B2.out) (fun hHeld3 => ?_)
        clear hKq Kq hrun hown hgrow
        try simp only [Act.put, List.setIfInBounds_toArray, List.set_cons_zero, List.set_cons_succ]
        rw [Nat.zero_add, List.nil_append] at O2
        obtain ⟨ya, yc, hy2⟩ := own_any O2.out
        subst hy2
        refine wpAnyH_ready (rs := [6]) (by kernel_rfl) (by simp) ?_
        refine AllReadyH.cons (o := { dst := some 89, op := Op.call { callee := Callee.builtin Builtin.append, args := #[Operand.tmp 86, Operand.tmp 88], argTypes := #[23, 23] }, type := 23, pos := "law.go:119", after := #[{ on := 3, ground := Ground.data }, { on := 5, ground := Ground.data }, { on := 3, ground := Ground.chain }], guard := none }) rfl (fun Kq hKq => ?_) AllReadyH.nil
        obtain ⟨y3, V3, hrun, hown, hgrow, _, _⟩ := run_append_own_at (P := Try.prog) (w := V2) W8.heap.size TLines TLines TLine i4 z4 4 32 Try.underlying23 hk0 hk1 hk2 hk3 hk4 (by decide) _ L.length (flatL L) O2.out ⟨rb, ro, none⟩ L.length rc (flatL G) HFG.out (HNG.out _ B2.out) (flatL_one _) (by have := HSM.out; unfold maxLen; omega) (by have := HSM.out; omega) B2.out.size
        refine step_append rfl _ _ TLines rfl (.slice ya L.length yc) (some ⟨rb, ro, none⟩) L.length rc y3 (by rfl) (by rfl) hrun ?_
        have B3 : Hid (Below W8.heap.size W8 V3) := B2.out.grown hgrow B2.out.size (fun j hj => (O2.out.lt j hj).1)
        have O3 := Lib.hid hown
        refine hKq.out _ _ (HSC.out _ B3.out) (fun hHeld6 => ?_)
        clear hKq Kq hrun hown hgrow
        try simp only [Act.put, List.setIfInBounds_toArray, List.set_cons_zero, List.set_cons_succ]
        rw [HFF.out] at O3
        have O3' : Hid (V3.ownsRow W8.heap.size TLine 4 y3 (L ++ G).length (flatL (L ++ G))) := by show World.ownsRow _ _ _ _ _ _ _; rw [List.length_append, HGL.out]; exact O3.out
        obtain ⟨za, zc, hy3, hz3, _⟩ := lns_own O3'.out
        rw [List.length_append, HGL.out] at hy3
        subst hy3
        have KT3 := Lib.hid (KTD.out V3 za zc hz3)
        clear hz3 O3' O3 O2 O1
        refine wpAnyH_ready (rs := [7]) (by kernel_rfl) (by simp) ?_
        refine AllReadyH.cons (o := { dst := some 90, op := Op.call { callee := Callee.value (Operand.func 22), args := #[Operand.tmp 89], argTypes := #[23] }, type := 51, pos := "law.go:119", after := #[{ on := 6, ground := Ground.data }, { on := 6, ground := Ground.chain }], guard := none }) rfl (fun Kq hKq => ?_) AllReadyH.nil
        go_simp
        refine KT3.out.mono ?_
        rintro _ V4 ⟨ta, tc, rfl, hb4⟩
        have B4 : Hid (Below W8.heap.size W8 V4) := B3.out.trans (hb4.mono B3.out.size)
        go_simp
        refine hKq.out _ _ ((HSC.out _ B4.out)) (fun hHeld7 => ?_)
        clear hKq Kq
        try simp only [Act.put, List.setIfInBounds_toArray, List.set_cons_zero, List.set_cons_succ]
        refine wpAnyH_take (i := 8) (oi := { dst := some 82, op := Op.move (Operand.tmp 90), type := 51, pos := "law.go:119", after := #[{ on := 7, ground := Ground.data }], guard := none }) (v := (.tuple #[.slice ta 0 tc, .int .i64 0])) rfl (by kernel_rfl) (by kernel_rfl) (by kernel_rfl) (fun _ _ _ h => h) (Or.inl ⟨by rfl, ?_⟩) hHeld7 ?_
        · rintro u ⟨hb, p0, p1⟩
          go_simp <;> first | rfl | kernel_rfl
        try simp only [Act.put, List.setIfInBounds_toArray, List.set_cons_zero, List.set_cons_succ]
        refine wpAnyH_take (i := 9) (oi := { dst := some 91, op := Op.extract (Operand.tmp 82) 0, type := 23, pos := "law.go:119", after := #[{ on := 8, ground := Ground.data }], guard := none }) (v := (.slice ta 0 tc)) rfl (by kernel_rfl) (by kernel_rfl) (by kernel_rfl) (fun _ _ _ h => h) (Or.inl ⟨by rfl, ?_⟩) hHeld7 ?_
        · rintro u ⟨hb, p0, p1⟩
          go_simp <;> first | rfl | kernel_rfl
        try simp only [Act.put, List.setIfInBounds_toArray, List.set_cons_zero, List.set_cons_succ]
        refine wpAnyH_take (i := 10) (oi := { dst := some 92, op := Op.extract (Operand.tmp 82) 1, type := 32, pos := "law.go:119", after := #[{ on := 8, ground := Ground.data }, { on := 11, ground := Ground.gcOnly Departure.lateStores }], guard := none }) (v := (.int .i64 0)) rfl (by kernel_rfl) (by kernel_rfl) (by kernel_rfl) (fun _ _ _ h => h) (Or.inl ⟨by rfl, ?_⟩) hHeld7 ?_
        · rintro u ⟨hb, p0, p1⟩
          go_simp <;> first | rfl | kernel_rfl
        try simp only [Act.put, List.setIfInBounds_toArray, List.set_cons_zero, List.set_cons_succ]
        refine wpAnyH_take (i := 11) (oi := { dst := some 14, op := Op.assign (Operand.tmp 91), type := 23, pos := "law.go:119", after := #[{ on := 9, ground := Ground.data }, { on := 7, ground := Ground.chain }, { on := 0, ground := Ground.phase }, { on := 1, ground := Ground.phase }, { on := 2, ground := Ground.phase }, { on := 3, ground := Ground.phase }, { on := 4, ground := Ground.phase }, { on := 5, ground := Ground.phase }, { on := 6, ground := Ground.phase }, { on := 7, ground := Ground.phase }, { on := 8, ground := Ground.phase }, { on := 9, ground := Ground.phase }, { on := 10, ground := Ground.textOnly Departure.lateStores }], guard := none }) (v := (.slice ta 0 tc)) rfl (by kernel_rfl) (by kernel_rfl) (by kernel_rfl) (fun _ _ _ h => h) (Or.inl ⟨by rfl, ?_⟩) hHeld7 ?_
        · rintro u ⟨hb, p0, p1⟩
          go_simp <;> first | rfl | kernel_rfl
        try simp only [Act.put, List.setIfInBounds_toArray, List.set_cons_zero, List.set_cons_succ]
        refine wpAnyH_take (i := 12) (oi := { dst := some 15, op := Op.assign (Operand.tmp 92), type := 32, pos := "law.go:119", after := #[{ on := 10, ground := Ground.data }, { on := 11, ground := Ground.chain }, { on := 0, ground := Ground.phase }, { on := 1, ground := Ground.phase }, { on := 2, ground := Ground.phase }, { on := 3, ground := Ground.phase }, { on := 4, ground := Ground.phase }, { on := 5, ground := Ground.phase }, { on := 6, ground := Ground.phase }, { on := 7, ground := Ground.phase }, { on := 8, ground := Ground.phase }, { on := 9, ground := Ground.phase }, { on := 10, ground := Ground.phase }, { on := 11, ground := Ground.phase }], guard := none }) (v := (.int .i64 0)) rfl (by kernel_rfl) (by kernel_rfl) (by kernel_rfl) (fun _ _ _ h => h) (Or.inl ⟨by rfl, ?_⟩) hHeld7 ?_
        · rintro u ⟨hb, p0, p1⟩
          go_simp <;> first | rfl | kernel_rfl
        try simp only [Act.put, List.setIfInBounds_toArray, List.set_cons_zero, List.set_cons_succ]
        have hHeldE := hHeld7
        refine wpAnyH_done (by kernel_rfl) ?_ _
        have HC9 := Lib.hid (show Below W8.heap.size W8 V4 from hHeldE.1)
        clear hHeldE
        have RE9 := Lib.hid (RE8.out.later HC9.out)
        have RR9 := Lib.hid (RR8.out.later HC9.out)
        have RK9 := Lib.hid (RK8.out.later HC9.out)
        have HB9 : Hid (Below w.heap.size w V4) := HB8.out.trans (HC9.out.mono HB8.out.size)
        have KSM : Hid (Calls Try.prog 21 #[.agg #[.int .i64 d, .int .u8 k, .int .u64 s, .slice ba L.length bc], .agg #[.int .i64 d, .int .u8 k, .int .u64 s, .slice (some ⟨ab, ao, none⟩) L.length cap]] V4 fun e w' => e = .returned (.bool true) ∧ Below V4.heap.size V4 w') := sameE_c d k s L ba (some ⟨ab, ao, none⟩) bc cap V4 (HL8.out.later HC9.out) (H.out.later HB9.out) (by have := HSM.out; omega)
        have KCK : Hid (∀ u, Below W8.heap.size W8 u → Calls Try.prog 16 #[.agg #[.int .i64 day, .int .u8 k, .int .u64 s, .slice (some ⟨rb, ro, none⟩) L.length rc]] u fun e w' => e = .returned (.int .i64 0) ∧ Below u.heap.size u w') := fun u hu => by
          have h1 := check_c day k s G (some ⟨rb, ro, none⟩) rc u (HG8.out.later hu) (by rw [HGL.out]; have := HSM.out; omega)
          rw [HGL.out, HGC.out] at h1
          exact h1
        clear HL8 HG8 RE8 RR8 RK8 HNA HNG KTD HSC
        have e0 : V4.cell? ⟨be, 0, none⟩ = some (.int .i64 d) := RE9.out.cell 0
        have e1 : V4.cell? ⟨be, 1, none⟩ = some (.int .u8 k) := RE9.out.cell 1
        have e2 : V4.cell? ⟨be, 2, none⟩ = some (.int .u64 s) := RE9.out.cell 2
        have e3 : V4.cell? ⟨be, 3, none⟩ = some (.slice (some ⟨ab, ao, none⟩) L.length cap) := RE9.out.cell 3
        have g0 : V4.cell? ⟨bk, 0, none⟩ = some (.int .i64 d) := RK9.out.cell 0
        have g1 : V4.cell? ⟨bk, 1, none⟩ = some (.int .u8 k) := RK9.out.cell 1
        have g2 : V4.cell? ⟨bk, 2, none⟩ = some (.int .u64 s) := RK9.out.cell 2
        have g3 : V4.cell? ⟨bk, 3, none⟩ = some (.slice ba L.length bc) := RK9.out.cell 3
        go_wp2_with fail
        refine KSM.out.mono ?_
        rintro _ V5 ⟨rfl, hb5⟩
        have HC10 : Hid (Below W8.heap.size W8 V5) := HC9.out.trans (hb5.mono HC9.out.size)
        have RR10 := Lib.hid (RR9.out.later hb5)
        clear e0 e1 e2 e3 g0 g1 g2 g3 hb5 KSM
        have r0 : V5.cell? ⟨br, 0, none⟩ = some (.int .i64 day) := RR10.out.cell 0
        have r1 : V5.cell? ⟨br, 1, none⟩ = some (.int .u8 k) := RR10.out.cell 1
        have r2 : V5.cell? ⟨br, 2, none⟩ = some (.int .u64 s) := RR10.out.cell 2
        have r3 : V5.cell? ⟨br, 3, none⟩ = some (.slice (some ⟨rb, ro, none⟩) L.length rc) := RR10.out.cell 3
        go_wp2_with fail
        refine (KCK.out _ HC10.out).mono ?_
        rintro _ V6 ⟨rfl, hb6⟩
        have HC11 : Hid (Below W8.heap.size W8 V6) := HC10.out.trans (hb6.mono HC10.out.size)
        have RR11 := Lib.hid (RR10.out.later hb6)
        have HB11 : Hid (Below w.heap.size w V6) := HB8.out.trans (HC11.out.mono HB8.out.size)
        clear r0 r1 r2 r3 hb6 KCK
        have r0 : V6.cell? ⟨br, 0, none⟩ = some (.int .i64 day) := RR11.out.cell 0
        go_wp2_with fail
        refine (KH.out _).mono ?_
        rintro _ w9 ⟨rfl, hb9⟩
        have HB9 : Hid (Below w.heap.size w w9) := HB11.out.trans (hb9.mono HB11.out.size)
        clear hb9
        go_wp2_with fail
        go_ret
        exact ⟨rfl, HB9.out⟩
    · have ht1 : (t == t) = true := beq_self_eq_true t
      have ht2 : ¬ t ≤ 0 := by omega
      go_wp2_with fail
      refine KR.out.mono ?_
      rintro e9 W5 ⟨hb5, hr5⟩
      have HB5 : Hid (Below w.heap.size w W5) := HB4.out.trans (hb5.mono HB4.out.size)
      have RE5 := Lib.hid (RE4.out.later hb5)
      clear KR hb5 HB4 RE4 e0 e1 e2 e3
      cases hdb : dayB day with
      | false =>
        have he : e9 = .returned (.tuple #[.agg #[.int .i64 0, .int .u8 0, .int .u64 0, .slice none 0 0], .int .i64 2]) := by
          rcases hr5 with ⟨h0, _⟩ | ⟨_, _, he⟩ | ⟨_, h0, _⟩
          · exact absurd HC0.out h0
          · exact he
          · rw [hdb] at h0; cases h0
        subst he
        clear hr5
        have hbd : day < 1 ∨ 3652059 < day := by
          unfold dayB at hdb
          by_cases h1 : 1 ≤ day
          · by_cases h2 : day ≤ 3652059
            · simp [h1, h2] at hdb
            · right; omega
          · left; omega
        rcases hbd with hd1 | hd1
        · go_wp2_with fail
          refine (KH.out _).mono ?_
          rintro _ w9 ⟨rfl, hb9⟩
          have HB9 : Hid (Below w.heap.size w w9) := (HB5.out.alloc HB5.out.size _).trans (hb9.mono (HB5.out.alloc HB5.out.size _).size)
          clear hb9
          go_wp2_with fail
          go_ret
          exact ⟨rfl, HB9.out⟩
        · go_wp2_with fail
          refine (KH.out _).mono ?_
          rintro _ w9 ⟨rfl, hb9⟩
          have HB9 : Hid (Below w.heap.size w w9) := (HB5.out.alloc HB5.out.size _).trans (hb9.mono (HB5.out.alloc HB5.out.size _).size)
          clear hb9
          go_wp2_with fail
          go_ret
          exact ⟨rfl, HB9.out⟩
      | true =>
        have hv : ∃ v, e9 = .returned (.tuple #[.agg #[.int .i64 day, .int .u8 k, .int .u64 s, v], .int .i64 0]) ∧ W5.ownsRow W4.heap.size TLine 4 v L.length (flatL (L.map Ln.neg)) := by
          rcases hr5 with ⟨h0, _⟩ | ⟨_, h0, _⟩ | ⟨_, _, h1⟩
          · exact absurd HC0.out h0
          · rw [hdb] at h0; cases h0
          · exact h1
        obtain ⟨v, rfl, hown5⟩ := hv
        have HDB := Lib.hid hdb
        obtain ⟨G, hG⟩ : ∃ G, G = L.map Ln.neg := ⟨_, rfl⟩
        have HGL : Hid (G.length = L.length) := by show _ = _; rw [hG, List.length_map]
        have HGC : Hid (chkM day k G = 0) := by show _ = _; rw [hG]; exact chk_turn HC0.out hdb
        have HGN : Hid (G.map Ln.neg = L) := by show _ = _; rw [hG]; exact neg_neg L
        have HGT : Hid (tokB (L ++ G) = true) := by show _ = _; rw [hG]; exact tok_turn HOK.out.2.1
        have HGZ : Hid (∀ q, ksum (L ++ G) q = 0) := fun q => by rw [hG]; exact sum_turn L q
        have HGI : Hid (∀ x ∈ L ++ G, InR x.key) := by rw [hG]; exact ne_neg HR.out
        rw [← hG, ← HGL.out] at hown5
        clear hG hr5 hdb
        obtain ⟨ra, rc, hv, hlns5, _⟩ := lns_own hown5
        rw [HGL.out] at hv
        subst hv
        have HG5 := Lib.hid hlns5
        clear hown5 hlns5
        go_upto_region 10 with (fail)
        have hb1 : Below W5.heap.size W5 (W5.alloc (.cells #[.int .i64 day, .int .u8 k, .int .u64 s, .slice ra L.length rc] TEn)) := (Below.refl _ W5).alloc (Nat.le_refl _) _
        have HB6 : Hid (Below w.heap.size w (W5.alloc (.cells #[.int .i64 day, .int .u8 k, .int .u64 s, .slice ra L.length rc] TEn))) := HB5.out.trans (hb1.mono HB5.out.size)
        have RE6 := Lib.hid (RE5.out.later hb1)
        have HG6 := Lib.hid (HG5.out.later hb1)
        have RR6 : Hid (Rw (W5.alloc (.cells #[.int .i64 day, .int .u8 k, .int .u64 s, .slice ra L.length rc] TEn)) W5.heap.size TEn [.int .i64 day, .int .u8 k, .int .u64 s, .slice ra L.length rc]) := Rw.new W5 [.int .i64 day, .int .u8 k, .int .u64 s, .slice ra L.length rc] TEn
        obtain ⟨br, hbr⟩ : ∃ br, br = W5.heap.size := ⟨_, rfl⟩
        rw [← hbr] at RR6 ⊢
        generalize W5.alloc (.cells #[.int .i64 day, .int .u8 k, .int .u64 s, .slice ra L.length rc] TEn) = W6 at HB6 RE6 HG6 RR6 ⊢
        clear hb1 hbr HB5 RE5 HG5
        have e0 : W6.cell? ⟨be, 0, none⟩ = some (.int .i64 d) := RE6.out.cell 0
        have r0 : W6.cell? ⟨br, 0, none⟩ = some (.int .i64 day) := RR6.out.cell 0
        have r1 : W6.cell? ⟨br, 1, none⟩ = some (.int .u8 k) := RR6.out.cell 1
        have r2 : W6.cell? ⟨br, 2, none⟩ = some (.int .u64 s) := RR6.out.cell 2
        have r3 : W6.cell? ⟨br, 3, none⟩ = some (.slice ra L.length rc) := RR6.out.cell 3
        have KV : Hid (Calls Try.prog 14 #[.agg #[.int .i64 day, .int .u8 k, .int .u64 s, .slice ra L.length rc], .int .i64 d] W6 fun e w' => ∃ v, e = .returned (.tuple #[.agg #[.int .i64 d, .int .u8 k, .int .u64 s, v], .int .i64 0]) ∧ w'.ownsRow W6.heap.size TLine 4 v L.length (flatL L) ∧ Below W6.heap.size W6 w') := by
          have h1 := reverse_c day k s G ra rc d W6 HG6.out (by rw [HGL.out]; have := HSM.out; omega)
          rw [HGL.out] at h1
          refine h1.mono ?_
          rintro e w' ⟨hb, ⟨h0, _⟩ | ⟨_, h0, _⟩ | ⟨_, _, v, h2, h3⟩⟩
          · exact absurd HGC.out h0
          · rw [HDY.out.1] at h0; cases h0
          · rw [HGN.out, HGL.out] at h3
            exact ⟨v, h2, h3, hb⟩
        go_wp2_with fail
        refine KV.out.mono ?_
        rintro _ W7 ⟨v, rfl, hown7, hb7⟩
        have HB7 : Hid (Below w.heap.size w W7) := HB6.out.trans (hb7.mono HB6.out.size)
        have RE7 := Lib.hid (RE6.out.later hb7)
        have RR7 := Lib.hid (RR6.out.later hb7)
        have HG7 := Lib.hid (HG6.out.later hb7)
        obtain ⟨ba, bc, hv, hlns7, _⟩ := lns_own hown7
        subst hv
        have HL7 := Lib.hid hlns7
        clear e0 r0 r1 r2 r3 KV hown7 hlns7 hb7 HB6 RE6 RR6 HG6
        go_upto_region 13 with (fail)
        have hb1 : Below W7.heap.size W7 (W7.alloc (.cells #[.int .i64 d, .int .u8 k, .int .u64 s, .slice ba L.length bc] TEn)) := (Below.refl _ W7).alloc (Nat.le_refl _) _
        have HB8 : Hid (Below w.heap.size w (W7.alloc (.cells #[.int .i64 d, .int .u8 k, .int .u64 s, .slice ba L.length bc] TEn))) := HB7.out.trans (hb1.mono HB7.out.size)
        have RE8 := Lib.hid (RE7.out.later hb1)
        have RR8 := Lib.hid (RR7.out.later hb1)
        have HG8 := Lib.hid (HG7.out.later hb1)
        have HL8 := Lib.hid (HL7.out.later hb1)
        have RK8 : Hid (Rw (W7.alloc (.cells #[.int .i64 d, .int .u8 k, .int .u64 s, .slice ba L.length bc] TEn)) W7.heap.size TEn [.int .i64 d, .int .u8 k, .int .u64 s, .slice ba L.length bc]) := Rw.new W7 [.int .i64 d, .int .u8 k, .int .u64 s, .slice ba L.length bc] TEn
        obtain ⟨bk, hbk⟩ : ∃ bk, bk = W7.heap.size := ⟨_, rfl⟩
        rw [← hbk] at RK8 ⊢
        generalize W7.alloc (.cells #[.int .i64 d, .int .u8 k, .int .u64 s, .slice ba L.length bc] TEn) = W8 at HB8 RE8 RR8 HG8 HL8 RK8 ⊢
        clear hb1 hbk HB7 RE7 RR7 HG7 HL7
        have HSOM : Hid (∃ ab ao, a = some ⟨ab, ao, none⟩) := by
          obtain ⟨b, o, h1, _⟩ := H.out 0 (by have := HDY.out.2; omega)
          exact ⟨b, o, h1⟩
        obtain ⟨ab, ao, ha⟩ := HSOM.out
        have HSOM2 : Hid (∃ rb ro, ra = some ⟨rb, ro, none⟩) := by
          obtain ⟨b, o, h1, _⟩ := HG8.out 0 (by rw [HGL.out]; have := HDY.out.2; omega)
          exact ⟨b, o, h1⟩
        obtain ⟨rb, ro, hra⟩ := HSOM2.out
        subst ha hra
        have HNA : Hid (∀ u, Below W8.heap.size W8 u → ∀ j v, (flatL L)[j]? = some v → u.cell? ((⟨ab, ao, none⟩ : Addr).add j) = some v) := fun u hu => lns_news (H.out.later (HB8.out.trans (hu.mono HB8.out.size)))
        have HNG : Hid (∀ u, Below W8.heap.size W8 u → ∀ j v, (flatL G)[j]? = some v → u.cell? ((⟨rb, ro, none⟩ : Addr).add j) = some v) := fun u hu => lns_news (HG8.out.later hu)
        have HFA : Hid ((flatL L).length = L.length * 4) := flatL_len L
        have HFG : Hid ((flatL G).length = L.length * 4) := by show _ = _; rw [flatL_len, HGL.out]
        have HFF : Hid (flatL L ++ flatL G = flatL (L ++ G)) := by show _ = _; unfold flatL; rw [List.flatMap_append]
        obtain ⟨i4, z4, hk0, hk1, hk2, hk3, hk4⟩ := info_ln
        have HSC : Hid (∀ u, Below W8.heap.size W8 u → (Below W8.heap.size W8 u ∧ u.cell? ⟨be, 3, none⟩ = some (.slice (some ⟨ab, ao, none⟩) L.length cap) ∧ u.cell? ⟨br, 3, none⟩ = some (.slice (some ⟨rb, ro, none⟩) L.length rc))) := fun u hu => ⟨hu, (RE8.out.later hu).cell 3, (RR8.out.later hu).cell 3⟩
        have KTD : Hid (∀ u ya yc, Lns u ya (L ++ G) → Calls Try.prog 22 #[.slice ya (L.length + L.length) yc] u fun e w' => ∃ ta tc, e = .returned (.tuple #[.slice ta 0 tc, .int .i64 0]) ∧ Below u.heap.size u w') := fun u ya yc hy => by
          have h1 := tidy_c (L ++ G) ya yc u hy HGI.out (by rw [List.length_append, HGL.out]; have := HSM.out; omega)
          rw [List.length_append, HGL.out] at h1
          refine h1.mono ?_
          rintro e w' ⟨hb, ⟨_, T, v, hT, h2, h3, _⟩ | ⟨h0, _⟩⟩
          · obtain rfl := hT.none HGZ.out
            obtain ⟨ta, tc, rfl⟩ := own_any h3
            exact ⟨ta, tc, h2, hb⟩
          · rw [HGT.out] at h0; cases h0
        refine wp_region_held_drew (S := (fun u => (Below W8.heap.size W8 u ∧ u.cell? ⟨be, 3, none⟩ = some (.slice (some ⟨ab, ao, none⟩) L.length cap) ∧ u.cell? ⟨br, 3, none⟩ = some (.slice (some ⟨rb, ro, none⟩) L.length rc)))) (by kernel_rfl) ?_ (fun hHeld => ?_)
        · exact HSC.out _ (Below.refl _ W8).drew
        refine wpAnyH_take (i := 1) (oi := { dst := some 84, op := Op.fieldAddr 25 (Operand.tmp 2) 3, type := 0, pos := "law.go:119", after := #[], guard := none }) (v := (.pointer (some ⟨be, 3, none⟩))) rfl (by kernel_rfl) (by kernel_rfl) (by kernel_rfl) (fun _ _ _ h => h) (Or.inl ⟨by rfl, ?_⟩) hHeld ?_
        · rintro u ⟨hb, p0, p1⟩
          go_simp <;> first | rfl | kernel_rfl
        try simp only [Act.put, List.setIfInBounds_toArray, List.set_cons_zero, List.set_cons_succ]
        refine wpAnyH_take (i := 2) (oi := { dst := some 85, op := Op.load 23 (Operand.tmp 84), type := 23, pos := "law.go:119", after := #[{ on := 1, ground := Ground.data }], guard := none }) (v := (.slice (some ⟨ab, ao, none⟩) L.length cap)) rfl (by kernel_rfl) (by kernel_rfl) (by kernel_rfl) (fun _ _ _ h => h) (Or.inl ⟨by rfl, ?_⟩) hHeld ?_
        · rintro u ⟨hb, p0, p1⟩
          go_simp <;> first | rfl | kernel_rfl
        try simp only [Act.put, List.setIfInBounds_toArray, List.set_cons_zero, List.set_cons_succ]
        refine wpAnyH_take (i := 4) (oi := { dst := some 87, op := Op.fieldAddr 25 (Operand.tmp 10) 3, type := 0, pos := "law.go:119", after := #[], guard := none }) (v := (.pointer (some ⟨br, 3, none⟩))) rfl (by kernel_rfl) (by kernel_rfl) (by kernel_rfl) (fun _ _ _ h => h) (Or.inl ⟨by rfl, ?_⟩) hHeld ?_
        · rintro u ⟨hb, p0, p1⟩
          go_simp <;> first | rfl | kernel_rfl
        try simp only [Act.put, List.setIfInBounds_toArray, List.set_cons_zero, List.set_cons_succ]
        refine wpAnyH_take (i := 5) (oi := { dst := some 88, op := Op.load 23 (Operand.tmp 87), type := 23, pos := "law.go:119", after := #[{ on := 4, ground := Ground.data }], guard := none }) (v := (.slice (some ⟨rb, ro, none⟩) L.length rc)) rfl (by kernel_rfl) (by kernel_rfl) (by kernel_rfl) (fun _ _ _ h => h) (Or.inl ⟨by rfl, ?_⟩) hHeld ?_
        · rintro u ⟨hb, p0, p1⟩
          go_simp <;> first | rfl | kernel_rfl
        try simp only [Act.put, List.setIfInBounds_toArray, List.set_cons_zero, List.set_cons_succ]
        refine wpAnyH_ready (rs := [0]) (by kernel_rfl) (by simp) ?_
        refine AllReadyH.cons (o := { dst := some 83, op := Op.buildSlice 23 0 #[], type := 23, pos := "law.go:119", after := #[], guard := none }) rfl (fun Kq hKq => ?_) AllReadyH.nil
        go_simp
        have O1 : Hid (((W8.alloc (.cells #[] TLine)).drew).ownsRow W8.heap.size TLine 4 (.slice (some ⟨W8.heap.size, 0, none⟩) 0 0) 0 []) := Ch.own_zero W8 TLine W8.heap.size 4 (Nat.le_refl _)
        have B1 : Hid (Below W8.heap.size W8 ((W8.alloc (.cells #[] TLine)).drew)) := ((Below.refl _ W8).alloc (Nat.le_refl _) _).drew
        refine hKq.out _ _ ((HSC.out _ B1.out)) (fun hHeld0 => ?_)
        clear hKq Kq
        try simp only [Act.put, List.setIfInBounds_toArray, List.set_cons_zero, List.set_cons_succ]
        generalize (W8.alloc (.cells #[] TLine)).drew = V1 at O1 B1 hHeld0 ⊢
        refine wpAnyH_ready (rs := [3]) (by kernel_rfl) (by simp) ?_
        refine AllReadyH.cons (o := { dst := some 86, op := Op.call { callee := Callee.builtin Builtin.append, args := #[Operand.tmp 83, Operand.tmp 85], argTypes := #[23, 23] }, type := 23, pos := "law.go:119", after := #[{ on := 0, ground := Ground.data }, { on := 2, ground := Ground.data }], guard := none }) rfl (fun Kq hKq => ?_) AllReadyH.nil
        obtain ⟨y2, V2, hrun, hown, hgrow, _, _⟩ := run_append_own_at (P := Try.prog) (w := V1) W8.heap.size TLines TLines TLine i4 z4 4 32 Try.underlying23 hk0 hk1 hk2 hk3 hk4 (by decide) _ 0 ([]) O1.out ⟨ab, ao, none⟩ L.length cap (flatL L) HFA.out (HNA.out _ B1.out) (flatL_one _) (by have := HSM.out; unfold maxLen; omega) (by have := HSM.out; omega) B1.out.size
        refine step_append rfl _ _ TLines rfl (.slice (some ⟨W8.heap.size, 0, none⟩) 0 0) (some ⟨ab, ao, none⟩) L.length cap y2 (by rfl) (by rfl) hrun ?_
        have B2 : Hid (Below W8.heap.size W8 V2) := B1.out.grown hgrow B1.out.size (fun j hj => (O1.out.lt j hj).1)
        have O2 := Lib.hid hown
        refine hKq.out _ _ (HSC.out _ B2.out) (fun hHeld3 => ?_)
        clear hKq Kq hrun hown hgrow
        try simp only [Act.put, List.setIfInBounds_toArray, List.set_cons_zero, List.set_cons_succ]
        rw [Nat.zero_add, List.nil_append] at O2
        obtain ⟨ya, yc, hy2⟩ := own_any O2.out
        subst hy2
        refine wpAnyH_ready (rs := [6]) (by kernel_rfl) (by simp) ?_
        refine AllReadyH.cons (o := { dst := some 89, op := Op.call { callee := Callee.builtin Builtin.append, args := #[Operand.tmp 86, Operand.tmp 88], argTypes := #[23, 23] }, type := 23, pos := "law.go:119", after := #[{ on := 3, ground := Ground.data }, { on := 5, ground := Ground.data }, { on := 3, ground := Ground.chain }], guard := none }) rfl (fun Kq hKq => ?_) AllReadyH.nil
        obtain ⟨y3, V3, hrun, hown, hgrow, _, _⟩ := run_append_own_at (P := Try.prog) (w := V2) W8.heap.size TLines TLines TLine i4 z4 4 32 Try.underlying23 hk0 hk1 hk2 hk3 hk4 (by decide) _ L.length (flatL L) O2.out ⟨rb, ro, none⟩ L.length rc (flatL G) HFG.out (HNG.out _ B2.out) (flatL_one _) (by have := HSM.out; unfold maxLen; omega) (by have := HSM.out; omega) B2.out.size
        refine step_append rfl _ _ TLines rfl (.slice ya L.length yc) (some ⟨rb, ro, none⟩) L.length rc y3 (by rfl) (by rfl) hrun ?_
        have B3 : Hid (Below W8.heap.size W8 V3) := B2.out.grown hgrow B2.out.size (fun j hj => (O2.out.lt j hj).1)
        have O3 := Lib.hid hown
        refine hKq.out _ _ (HSC.out _ B3.out) (fun hHeld6 => ?_)
        clear hKq Kq hrun hown hgrow
        try simp only [Act.put, List.setIfInBounds_toArray, List.set_cons_zero, List.set_cons_succ]
        rw [HFF.out] at O3
        have O3' : Hid (V3.ownsRow W8.heap.size TLine 4 y3 (L ++ G).length (flatL (L ++ G))) := by show World.ownsRow _ _ _ _ _ _ _; rw [List.length_append, HGL.out]; exact O3.out
        obtain ⟨za, zc, hy3, hz3, _⟩ := lns_own O3'.out
        rw [List.length_append, HGL.out] at hy3
        subst hy3
        have KT3 := Lib.hid (KTD.out V3 za zc hz3)
        clear hz3 O3' O3 O2 O1
        refine wpAnyH_ready (rs := [7]) (by kernel_rfl) (by simp) ?_
        refine AllReadyH.cons (o := { dst := some 90, op := Op.call { callee := Callee.value (Operand.func 22), args := #[Operand.tmp 89], argTypes := #[23] }, type := 51, pos := "law.go:119", after := #[{ on := 6, ground := Ground.data }, { on := 6, ground := Ground.chain }], guard := none }) rfl (fun Kq hKq => ?_) AllReadyH.nil
        go_simp
        refine KT3.out.mono ?_
        rintro _ V4 ⟨ta, tc, rfl, hb4⟩
        have B4 : Hid (Below W8.heap.size W8 V4) := B3.out.trans (hb4.mono B3.out.size)
        go_simp
        refine hKq.out _ _ ((HSC.out _ B4.out)) (fun hHeld7 => ?_)
        clear hKq Kq
        try simp only [Act.put, List.setIfInBounds_toArray, List.set_cons_zero, List.set_cons_succ]
        refine wpAnyH_take (i := 8) (oi := { dst := some 82, op := Op.move (Operand.tmp 90), type := 51, pos := "law.go:119", after := #[{ on := 7, ground := Ground.data }], guard := none }) (v := (.tuple #[.slice ta 0 tc, .int .i64 0])) rfl (by kernel_rfl) (by kernel_rfl) (by kernel_rfl) (fun _ _ _ h => h) (Or.inl ⟨by rfl, ?_⟩) hHeld7 ?_
        · rintro u ⟨hb, p0, p1⟩
          go_simp <;> first | rfl | kernel_rfl
        try simp only [Act.put, List.setIfInBounds_toArray, List.set_cons_zero, List.set_cons_succ]
        refine wpAnyH_take (i := 9) (oi := { dst := some 91, op := Op.extract (Operand.tmp 82) 0, type := 23, pos := "law.go:119", after := #[{ on := 8, ground := Ground.data }], guard := none }) (v := (.slice ta 0 tc)) rfl (by kernel_rfl) (by kernel_rfl) (by kernel_rfl) (fun _ _ _ h => h) (Or.inl ⟨by rfl, ?_⟩) hHeld7 ?_
        · rintro u ⟨hb, p0, p1⟩
          go_simp <;> first | rfl | kernel_rfl
        try simp only [Act.put, List.setIfInBounds_toArray, List.set_cons_zero, List.set_cons_succ]
        refine wpAnyH_take (i := 10) (oi := { dst := some 92, op := Op.extract (Operand.tmp 82) 1, type := 32, pos := "law.go:119", after := #[{ on := 8, ground := Ground.data }, { on := 11, ground := Ground.gcOnly Departure.lateStores }], guard := none }) (v := (.int .i64 0)) rfl (by kernel_rfl) (by kernel_rfl) (by kernel_rfl) (fun _ _ _ h => h) (Or.inl ⟨by rfl, ?_⟩) hHeld7 ?_
        · rintro u ⟨hb, p0, p1⟩
          go_simp <;> first | rfl | kernel_rfl
        try simp only [Act.put, List.setIfInBounds_toArray, List.set_cons_zero, List.set_cons_succ]
        refine wpAnyH_take (i := 11) (oi := { dst := some 14, op := Op.assign (Operand.tmp 91), type := 23, pos := "law.go:119", after := #[{ on := 9, ground := Ground.data }, { on := 7, ground := Ground.chain }, { on := 0, ground := Ground.phase }, { on := 1, ground := Ground.phase }, { on := 2, ground := Ground.phase }, { on := 3, ground := Ground.phase }, { on := 4, ground := Ground.phase }, { on := 5, ground := Ground.phase }, { on := 6, ground := Ground.phase }, { on := 7, ground := Ground.phase }, { on := 8, ground := Ground.phase }, { on := 9, ground := Ground.phase }, { on := 10, ground := Ground.textOnly Departure.lateStores }], guard := none }) (v := (.slice ta 0 tc)) rfl (by kernel_rfl) (by kernel_rfl) (by kernel_rfl) (fun _ _ _ h => h) (Or.inl ⟨by rfl, ?_⟩) hHeld7 ?_
        · rintro u ⟨hb, p0, p1⟩
          go_simp <;> first | rfl | kernel_rfl
        try simp only [Act.put, List.setIfInBounds_toArray, List.set_cons_zero, List.set_cons_succ]
        refine wpAnyH_take (i := 12) (oi := { dst := some 15, op := Op.assign (Operand.tmp 92), type := 32, pos := "law.go:119", after := #[{ on := 10, ground := Ground.data }, { on := 11, ground := Ground.chain }, { on := 0, ground := Ground.phase }, { on := 1, ground := Ground.phase }, { on := 2, ground := Ground.phase }, { on := 3, ground := Ground.phase }, { on := 4, ground := Ground.phase }, { on := 5, ground := Ground.phase }, { on := 6, ground := Ground.phase }, { on := 7, ground := Ground.phase }, { on := 8, ground := Ground.phase }, { on := 9, ground := Ground.phase }, { on := 10, ground := Ground.phase }, { on := 11, ground := Ground.phase }], guard := none }) (v := (.int .i64 0)) rfl (by kernel_rfl) (by kernel_rfl) (by kernel_rfl) (fun _ _ _ h => h) (Or.inl ⟨by rfl, ?_⟩) hHeld7 ?_
        · rintro u ⟨hb, p0, p1⟩
          go_simp <;> first | rfl | kernel_rfl
        try simp only [Act.put, List.setIfInBounds_toArray, List.set_cons_zero, List.set_cons_succ]
        have hHeldE := hHeld7
        refine wpAnyH_done (by kernel_rfl) ?_ _
        have HC9 := Lib.hid (show Below W8.heap.size W8 V4 from hHeldE.1)
        clear hHeldE
        have RE9 := Lib.hid (RE8.out.later HC9.out)
        have RR9 := Lib.hid (RR8.out.later HC9.out)
        have RK9 := Lib.hid (RK8.out.later HC9.out)
        have HB9 : Hid (Below w.heap.size w V4) := HB8.out.trans (HC9.out.mono HB8.out.size)
        have KSM : Hid (Calls Try.prog 21 #[.agg #[.int .i64 d, .int .u8 k, .int .u64 s, .slice ba L.length bc], .agg #[.int .i64 d, .int .u8 k, .int .u64 s, .slice (some ⟨ab, ao, none⟩) L.length cap]] V4 fun e w' => e = .returned (.bool true) ∧ Below V4.heap.size V4 w') := sameE_c d k s L ba (some ⟨ab, ao, none⟩) bc cap V4 (HL8.out.later HC9.out) (H.out.later HB9.out) (by have := HSM.out; omega)
        have KCK : Hid (∀ u, Below W8.heap.size W8 u → Calls Try.prog 16 #[.agg #[.int .i64 day, .int .u8 k, .int .u64 s, .slice (some ⟨rb, ro, none⟩) L.length rc]] u fun e w' => e = .returned (.int .i64 0) ∧ Below u.heap.size u w') := fun u hu => by
          have h1 := check_c day k s G (some ⟨rb, ro, none⟩) rc u (HG8.out.later hu) (by rw [HGL.out]; have := HSM.out; omega)
          rw [HGL.out, HGC.out] at h1
          exact h1
        clear HL8 HG8 RE8 RR8 RK8 HNA HNG KTD HSC
        have e0 : V4.cell? ⟨be, 0, none⟩ = some (.int .i64 d) := RE9.out.cell 0
        have e1 : V4.cell? ⟨be, 1, none⟩ = some (.int .u8 k) := RE9.out.cell 1
        have e2 : V4.cell? ⟨be, 2, none⟩ = some (.int .u64 s) := RE9.out.cell 2
        have e3 : V4.cell? ⟨be, 3, none⟩ = some (.slice (some ⟨ab, ao, none⟩) L.length cap) := RE9.out.cell 3
        have g0 : V4.cell? ⟨bk, 0, none⟩ = some (.int .i64 d) := RK9.out.cell 0
        have g1 : V4.cell? ⟨bk, 1, none⟩ = some (.int .u8 k) := RK9.out.cell 1
        have g2 : V4.cell? ⟨bk, 2, none⟩ = some (.int .u64 s) := RK9.out.cell 2
        have g3 : V4.cell? ⟨bk, 3, none⟩ = some (.slice ba L.length bc) := RK9.out.cell 3
        go_wp2_with fail
        refine KSM.out.mono ?_
        rintro _ V5 ⟨rfl, hb5⟩
        have HC10 : Hid (Below W8.heap.size W8 V5) := HC9.out.trans (hb5.mono HC9.out.size)
        have RR10 := Lib.hid (RR9.out.later hb5)
        clear e0 e1 e2 e3 g0 g1 g2 g3 hb5 KSM
        have r0 : V5.cell? ⟨br, 0, none⟩ = some (.int .i64 day) := RR10.out.cell 0
        have r1 : V5.cell? ⟨br, 1, none⟩ = some (.int .u8 k) := RR10.out.cell 1
        have r2 : V5.cell? ⟨br, 2, none⟩ = some (.int .u64 s) := RR10.out.cell 2
        have r3 : V5.cell? ⟨br, 3, none⟩ = some (.slice (some ⟨rb, ro, none⟩) L.length rc) := RR10.out.cell 3
        go_wp2_with fail
        refine (KCK.out _ HC10.out).mono ?_
        rintro _ V6 ⟨rfl, hb6⟩
        have HC11 : Hid (Below W8.heap.size W8 V6) := HC10.out.trans (hb6.mono HC10.out.size)
        have RR11 := Lib.hid (RR10.out.later hb6)
        have HB11 : Hid (Below w.heap.size w V6) := HB8.out.trans (HC11.out.mono HB8.out.size)
        clear r0 r1 r2 r3 hb6 KCK
        have r0 : V6.cell? ⟨br, 0, none⟩ = some (.int .i64 day) := RR11.out.cell 0
        go_wp2_with fail
        refine (KH.out _).mono ?_
        rintro _ w9 ⟨rfl, hb9⟩
        have HB9 : Hid (Below w.heap.size w w9) := HB11.out.trans (hb9.mono HB11.out.size)
        clear hb9
        go_wp2_with fail
        go_ret
        exact ⟨rfl, HB9.out⟩
  · have HNE := Lib.hid hc0
    have KR := Lib.hid (reverse_c d k s L a cap day W3 (H.out.later HB3.out) (by have := HSM.out; omega))
    have n1 : (ch == 0) = false := beq_eq_false_iff_ne.2 hc0
    have n2 : (ch != 0) = true := by simpa using hc0
    clear hc0
    go_wp2_with fail
    refine KR.out.mono ?_
    rintro _ W4 ⟨hb4, hr4⟩
    have HB4 : Hid (Below w.heap.size w W4) := HB3.out.trans (hb4.mono HB3.out.size)
    have he : ∃ z, z = ch ∧ ‹Ending› = .returned (.tuple #[.agg #[.int .i64 0, .int .u8 0, .int .u64 0, .slice none 0 0], .int .i64 z]) := by
      rcases hr4 with ⟨_, he⟩ | ⟨h0, _⟩ | ⟨h0, _⟩
      · exact ⟨ch, rfl, by rw [HCH.out]; exact he⟩
      · exact absurd (HCH.out.trans h0) HNE.out
      · exact absurd (HCH.out.trans h0) HNE.out
    obtain ⟨z, rfl, rfl⟩ := he
    clear hb4 hr4 KR e0 e1 e2 e3
    go_upto_region 5 with (fail)
    have hb1 : Below W4.heap.size W4 (W4.alloc (.cells #[.int .i64 0, .int .u8 0, .int .u64 0, .slice none 0 0] TEn)) := (Below.refl _ W4).alloc (Nat.le_refl _) _
    have HB5 : Hid (Below w.heap.size w (W4.alloc (.cells #[.int .i64 0, .int .u8 0, .int .u64 0, .slice none 0 0] TEn))) := HB4.out.trans (hb1.mono HB4.out.size)
    have RR5 : Hid (Rw (W4.alloc (.cells #[.int .i64 0, .int .u8 0, .int .u64 0, .slice none 0 0] TEn)) W4.heap.size TEn [.int .i64 0, .int .u8 0, .int .u64 0, .slice none 0 0]) := Rw.new W4 [.int .i64 0, .int .u8 0, .int .u64 0, .slice none 0 0] TEn
    obtain ⟨br, hbr⟩ : ∃ br, br = W4.heap.size := ⟨_, rfl⟩
    rw [← hbr] at RR5 ⊢
    generalize W4.alloc (.cells #[.int .i64 0, .int .u8 0, .int .u64 0, .slice none 0 0] TEn) = W5 at HB5 RR5 ⊢
    clear hb1 hbr HB4
    have r3 : W5.cell? ⟨br, 3, none⟩ = some (.slice none 0 0) := RR5.out.cell 3
    go_wp2_with fail
    refine (KH.out _).mono ?_
    rintro _ w9 ⟨rfl, hb9⟩
    have HB9 : Hid (Below w.heap.size w w9) := HB5.out.trans (hb9.mono HB5.out.size)
    clear hb9
    go_wp2_with fail
    go_ret
    exact ⟨rfl, HB9.out⟩
end
end Go.Proofs.Ytnblilonjpfdnaa.Jn
