/- Package plans: the document's Retire. -/
import Derived.Test.YtakpoabpgdmneaaPlRAdd
namespace Go.Proofs.Ytakpoabpgdmneaa.Pl
open Go Go.RowKit Ck Go.Maps
/-- What is left where a plan is put in place of one. -/
theorem rres_set {S : Nat → Prop} {w w' : World} {M : Int → Option Pn} {K : List Int} {Q : List Pf} {va : Option Addr} {vc : Nat} (t : Tied M K Q) (h : Doc S w (.slice va Q.length vc) Q) (hb : Below w.heap.size w w') {i : Nat} (hi : i < Q.length) {p : Pf} (hid : p.x.id = Q[i].x.id) (hok : p.x.okB = true) (hp : PrsS S w' p.a p.x.ps) (hS : ∀ j, w.heap.size ≤ j → S j) {a' : Option Addr} {c' : Nat} (ho : w'.ownsRow w.heap.size TPlan 5 (.slice a' Q.length c') Q.length (splice (flatN Q) (i * 5) p.cells)) :
    RRes S Q.length (upd M Q[i].x.id p.x) 0 w (.returned (.tuple #[.slice a' Q.length c', .int .i64 0])) w' := by
  refine ⟨a', c', Q.set i p, K, by rw [List.length_set], t.set hi hid hok, ⟨by rw [List.length_set, flatN_set Q i hi]; exact own_lower ho (Nat.zero_le _), fun j hj => ?_, fun q hq => ?_⟩, hb, by rw [List.length_set]; exact Nat.le_succ _⟩
  · rw [List.length_set] at hj
    exact hS j (ho.lt j hj).1
  · rcases List.mem_or_eq_of_mem_set hq with h1 | rfl
    · exact (h.later hb).prs q h1
    · exact hp
set_option maxRecDepth 100000 in
set_option maxHeartbeats 3200000 in
theorem rretire_c {S : Nat → Prop} {w : World} {M : Int → Option Pn} {K : List Int} {Q : List Pf} {va : Option Addr} {vc : Nat} (t : Tied M K Q) (h : Doc S w (.slice va Q.length vc) Q) (k day : Int) (hQ : Q.length ≤ 1000000) (hS : ∀ j, w.heap.size ≤ j → S j) :
    Calls Try.prog 13 #[.slice va Q.length vc, .int .u64 k, .int .i64 day] w (RRes S Q.length (retireM M k day).1 (retireM M k day).2 w) := by
  have G := Lib.hid t
  have H := Lib.hid h
  have KA := Lib.hid (at_c t h k hQ)
  have KD : Hid (∀ u, Calls Try.prog 32 #[.int .i64 day] u fun e w' => e = .returned (.bool (dayB day)) ∧ u = w') := fun u => rday_c day u
  obtain ⟨i0, z0, hi0, hz0, hz1, hz2, hz3⟩ := info_pn
  obtain ⟨R, hR⟩ : ∃ R, R = retireM M k day := ⟨_, rfl⟩
  rw [← hR]
  unfold retireM at hR
  have HS := Lib.hid hS
  obtain ⟨dd, hdd⟩ : ∃ dd, dd = dayB day := ⟨_, rfl⟩
  rw [← hdd] at KD hR
  have HDD := Lib.hid hdd
  have HR := Lib.hid hR
  clear t h hS hR hdd
  go_enter Try.func13, Try.ntmps13
  go_wp2_with fail
  refine (KD.out _).mono ?_
  rintro _ _ ⟨rfl, rfl⟩
  cases dd with
  | false =>
    have HF : Hid (R = (M, 2)) := by show _ = _; rw [HR.out]; rfl
    clear HR KA
    go_wp2_with fail
    go_ret2
    rw [HF.out]
    exact rres_same G.out H.out (Below.refl _ _)
  | true =>
    go_wp2_with fail
    refine KA.out.mono ?_
    rintro _ _ ⟨rfl, z, rfl, hz⟩
    rcases hz with ⟨rfl, hm⟩ | ⟨i, hi, hm, hid, rfl⟩
    · have HF : Hid (R = (M, 7)) := by show _ = _; rw [HR.out, hm]; rfl
      clear HR KA hm
      go_wp2_with fail
      go_ret2
      rw [HF.out]
      exact rres_same G.out H.out (Below.refl _ _)
    · obtain ⟨g, gcap, hv, hf⟩ := H.out.five hi
      obtain ⟨rfl, rfl⟩ : va = some ⟨g, 0, none⟩ ∧ vc = gcap := by simpa using hv
      have hok := G.out.ok hi
      have hlen := okB_len hok
      have HP := Lib.hid (H.out.prs _ (List.getElem_mem hi))
      have HR1 : Hid (R = if Q[i].x.ret ≠ 0 ∨ day ≤ Q[i].x.last.frm then (M, 9) else (upd M Q[i].x.id (Q[i].x.end' day), 0)) := by
        show _ = _
        rw [HR.out, hm, hid]
        rfl
      have HSET : Hid (∀ (w' : World) (a' : Option Addr) (c' : Nat), Below w.heap.size w w' → Q[i].x.last.frm < day → w'.ownsRow w.heap.size TPlan 5 (.slice a' Q.length c') Q.length (splice (flatN Q) (i * 5) (Pf.cells ⟨Q[i].x.end' day, Q[i].a, Q[i].cap⟩)) → RRes S Q.length (upd M Q[i].x.id (Q[i].x.end' day)) 0 w (.returned (.tuple #[.slice a' Q.length c', .int .i64 0])) w') := fun w' a' c' hb hl ho =>
        rres_set G.out H.out hb hi (p := ⟨Q[i].x.end' day, Q[i].a, Q[i].cap⟩) rfl (okB_end hok HDD.out.symm hl) ((H.out.later hb).prs Q[i] (List.getElem_mem hi)) HS.out ho
      have HO := Lib.hid H.out.own
      have HHD := Lib.hid H
      obtain ⟨p, hp⟩ : ∃ p, p = Q[i] := ⟨_, rfl⟩
      rw [← hp] at hf HP HR1 HSET hlen
      have HI := Lib.hid hi
      have hI5 : i * 5 + 5 ≤ Q.length * 5 := by omega
      have HI5 := Lib.hid hI5
      have j0 : (0 : Int) ≤ (i : Int) := by omega
      have j1 : (i : Int) < (Q.length : Int) := by omega
      have c0 := hf.c0
      have c1 := hf.c1
      have c2 := hf.c2
      have c3 := hf.c3
      have c4 := hf.c4
      clear hp hok hm hid hf hv HR KA HDD hI5
      obtain ⟨⟨id, name, every, L, ret⟩, pa, pc⟩ := p
      obtain ⟨ls, hls⟩ : ∃ ls, ls = Pn.last ⟨id, name, every, L, ret⟩ := ⟨_, rfl⟩
      have HLS := Lib.hid hls
      simp only at HP HR1 HSET hlen c0 c1 c2 c3 c4
      rw [← hls] at HR1 HSET
      obtain ⟨n1, hn1⟩ : ∃ n1, n1 + 1 = L.length := ⟨L.length - 1, by omega⟩
      have hlast : ls = L[n1]'(by omega) := by
        rw [hls]
        unfold Pn.last
        simp only
        rw [show L.length - 1 = n1 by omega, List.getD_eq_getElem?_getD, List.getElem?_eq_getElem (by omega)]
        rfl
      obtain ⟨ab, ao, rfl, dl, d0, d1⟩ := HP.out.1 n1 (by omega)
      rw [← hlast] at d0
      have e1 : IntKind.i64.wrap ((L.length : Int) - 1) = (n1 : Int) := by
        rw [show (L.length : Int) - 1 = (n1 : Int) by omega]
        exact IntWalk.i64_in _ (by omega)
      have y0 : (0 : Int) ≤ (n1 : Int) := by omega
      have y1 : (n1 : Int) < (L.length : Int) := by omega
      obtain ⟨lf, la⟩ := ls
      simp only at d0 HR1 HSET
      clear hls hlast d1 hn1 HLS
      go_upto_region 7 with (fail)
      have HB : Hid (Below w.heap.size w (w.alloc (.cells #[.int .u64 id, .string name, .int .i64 every, .slice (some ⟨ab, ao, none⟩) L.length pc, .int .i64 ret] TPlan))) := (Below.refl _ w).alloc (Nat.le_refl _) _
      have RX : Hid (Rw (w.alloc (.cells #[.int .u64 id, .string name, .int .i64 every, .slice (some ⟨ab, ao, none⟩) L.length pc, .int .i64 ret] TPlan)) w.heap.size TPlan [.int .u64 id, .string name, .int .i64 every, .slice (some ⟨ab, ao, none⟩) L.length pc, .int .i64 ret]) := Rw.new w [.int .u64 id, .string name, .int .i64 every, .slice (some ⟨ab, ao, none⟩) L.length pc, .int .i64 ret] TPlan
      have D0 : Hid ((w.alloc (.cells #[.int .u64 id, .string name, .int .i64 every, .slice (some ⟨ab, ao, none⟩) L.length pc, .int .i64 ret] TPlan)).cell? ⟨ab, ao + n1 * 2, none⟩ = some (.int .i64 lf)) := by
        show _ = _
        rw [HB.out.cell (by exact dl)]
        exact d0
      generalize w.alloc (.cells #[.int .u64 id, .string name, .int .i64 every, .slice (some ⟨ab, ao, none⟩) L.length pc, .int .i64 ret] TPlan) = W at HB RX D0 ⊢
      clear c0 c1 c2 c3 c4 d0 dl
      have d0 := D0.out
      have q3 : W.cell? ⟨w.heap.size, 3, none⟩ = some (.slice (some ⟨ab, ao, none⟩) L.length pc) := RX.out.cell 3
      have q4 : W.cell? ⟨w.heap.size, 4, none⟩ = some (.int .i64 ret) := RX.out.cell 4
      by_cases hz : ret = 0
      · subst hz
        by_cases hd : day ≤ lf
        · have HF : Hid (R = (M, 9)) := by show _ = _; rw [HR1.out, if_pos (.inr hd)]
          clear HR1 HSET
          go_wp2_with fail
          go_ret2
          rw [HF.out]
          exact rres_same G.out H.out HB.out
        · have HF : Hid (R = (upd M id (Pn.end' ⟨id, name, every, L, 0⟩ day), 0)) := by
            show _ = _
            rw [HR1.out, if_neg (by rintro (h | h); exact h rfl; exact hd h)]
          have HLT : Hid (lf < day) := Int.not_le.1 hd
          have f4 := RX.out.frozen 4
          clear HR1
          go_upto_region 10 with (fail)
          clear f4 q3 q4 d0 D0
          have RX3 : Hid (Rw (W.setCell ⟨w.heap.size, 4, none⟩ (.int .i64 day)) w.heap.size TPlan [.int .u64 id, .string name, .int .i64 every, .slice (some ⟨ab, ao, none⟩) L.length pc, .int .i64 day]) := RX.out.setCell 4 _
          have HB3 : Hid (Below w.heap.size w (W.setCell ⟨w.heap.size, 4, none⟩ (.int .i64 day))) := Keeps.belowT HB.out ((Keeps.refl (fun j => j = w.heap.size) _).setCell w.heap.size 4 _ (.inl rfl)) (fun j hj => Nat.le_of_eq hj.symm) HB.out.size
          generalize W.setCell ⟨w.heap.size, 4, none⟩ (.int .i64 day) = W1 at RX3 HB3 ⊢
          have HA1 := Lib.hid (own_later HO.out HB3.out)
          obtain ⟨_, hgl, hrd⟩ := own_read HA1.out
          have hs1 : w.heap.size ≤ W1.heap.size := HB3.out.size
          have HRD : Hid (∀ j u, (flatN Q)[j]? = some u → (W1.alloc (.cells #[] TPlan)).cell? ⟨g, j, none⟩ = some u) := fun j u hu => by
            rw [((Below.refl W1.heap.size W1).alloc (Nat.le_refl _) _).cell (p := ⟨g, j, none⟩) (by exact hgl)]
            exact hrd j u hu
          clear hgl hrd
          go_wp2_with (at_builtin; refine wpList_append_any rfl _ _ TPlans rfl w.heap.size TPlan i0 z0 5 64 Try.underlying27 hi0 hz0 hz1 hz2 hz3 (by decide) _ 0 [] rfl (own_zero _ _ _ _ hs1) _ Q.length vc (flatN Q) rfl (.inr ⟨_, rfl, ?len1, ?rd1⟩) (flatN_one _) (by unfold maxLen; omega) (by omega) (by simp; omega) ?_)
          case len1 => rw [flatN_len]
          case rd1 =>
            intro j u hu
            try rw [Go.WideShapes.add_plain, Nat.zero_add]
            exact HRD.out j u hu
          intro v1 w1 hown1 hg1 hat1
          have HB4 : Hid (Below w.heap.size w w1) := (HB3.out.alloc hs1 _).grown hg1 (by simp; omega) (fun j hj => by cases hj; exact hs1)
          have HK2 : Hid (Below W1.heap.size W1 w1) := ((Below.refl _ W1).alloc (Nat.le_refl _) _).grown hg1 (by simp) (fun j hj => by cases hj; exact Nat.le_refl _)
          have RB3 := Lib.hid (RX3.out.later HK2.out)
          obtain ⟨a1, c1, rfl⟩ := own_slice hown1
          try simp only [List.nil_append, Nat.zero_add] at hown1
          obtain ⟨g1, rfl⟩ : ∃ g1, a1 = some ⟨g1, 0, none⟩ := by
            rcases hown1.2 with ⟨_, h0⟩ | ⟨g1, _, _, h1, _⟩
            · exact absurd h0 (by omega)
            · cases h1; exact ⟨g1, rfl⟩
          have HO1 := Lib.hid hown1
          have RG : Hid (∃ cur, Rw w1 g1 TPlan cur ∧ Q.length * 5 ≤ cur.length) := by
            rcases hown1.2 with ⟨h1, _⟩ | ⟨g2, vc', cur, h1, _, h2, h3, _, h4, _⟩
            · cases h1
            · obtain ⟨rfl, rfl⟩ : g1 = g2 ∧ c1 = vc' := by simpa using h1
              exact ⟨cur.toList, h2, Nat.le_trans (Nat.mul_le_mul_right 5 h3) (Nat.le_of_eq (by rw [Array.length_toList]; exact h4.symm))⟩
          have b0 : w1.cell? ⟨w.heap.size, 0, none⟩ = some (.int .u64 id) := (RB3.out).cell 0
          have b1 : w1.cell? ⟨w.heap.size, 1, none⟩ = some (.string name) := (RB3.out).cell 1
          have b2 : w1.cell? ⟨w.heap.size, 2, none⟩ = some (.int .i64 every) := (RB3.out).cell 2
          have b3 : w1.cell? ⟨w.heap.size, 3, none⟩ = some (.slice (some ⟨ab, ao, none⟩) L.length pc) := (RB3.out).cell 3
          have b4 : w1.cell? ⟨w.heap.size, 4, none⟩ = some (.int .i64 day) := (RB3.out).cell 4
          have HINF : Hid ((Try.prog.info? TPlan).map (·.size) = some 5) := by show _ = _; kernel_rfl
          clear hown1 hg1 hat1 HRD HA1 RX3 HB3 RX HB
          try rw [Nat.zero_add]
          go_wp2_with (with_reducible refine wpList_store_mid rfl TPlan _ _ rfl g1 (i * 5) #[.int .u64 id, .string name, .int .i64 every, .slice (some ⟨ab, ao, none⟩) L.length pc, .int .i64 day] rfl rfl ?thr ?inf ?one ?_)
          case thr => obtain ⟨cur, h1, h2⟩ := RG.out; exact h1.there (i * 5) 5 (by have := HI5.out; omega)
          case inf => simpa using HINF.out
          case one => simp [Value.oneCell']
          go_wp2_with fail
          go_ret2
          rw [HF.out]
          exact HSET.out _ _ _ (Keeps.belowT HB4.out ((Keeps.refl (fun j => j = g1) _).setCells g1 (i * 5) _ (.inl rfl)) (fun j hj => by rw [hj]; exact (HO1.out.lt g1 rfl).1) HB4.out.size) HLT.out (own_splice HO1.out (i * 5) _ HI5.out)
      · have hne : (ret == 0) = false := beq_eq_false_iff_ne.2 hz
        have HF : Hid (R = (M, 9)) := by show _ = _; rw [HR1.out, if_pos (.inl hz)]
        clear HR1 HSET
        go_wp2_with fail
        go_ret2
        rw [HF.out]
        exact rres_same G.out H.out HB.out
end Go.Proofs.Ytakpoabpgdmneaa.Pl
