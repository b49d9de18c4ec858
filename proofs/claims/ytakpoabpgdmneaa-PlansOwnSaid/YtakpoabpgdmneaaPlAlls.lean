/- Package plans: New, All. -/
import Derived.Test.YtakpoabpgdmneaaPlRRep
import Derived.Test.YtakpoabpgdmneaaPlRPrice
namespace Go.Proofs.Ytakpoabpgdmneaa.Pl
open Go Go.RowKit Ck Go.Maps
set_option maxRecDepth 100000 in
theorem new_c (w : World) : Calls Try.prog 8 #[] w fun e w' => ∃ c bm, e = .returned (.pointer (some ⟨c, 0, none⟩)) ∧ At w' c bm (.slice none 0 0) 0 (fun _ => none) [] ∧ Below w.heap.size w w' ∧ ∀ j, Bs c bm (.slice none 0 0) (fun _ => none) j → w.heap.size ≤ j := by
  have hmm := @run_makeMap Try.prog
  go_enter Try.func8, Try.ntmps8
  go_wp2_with fail
  go_ret
  have hb : Below w.heap.size w ((w.alloc (.map #[] 0)).alloc (.cells #[.map (some w.heap.size), .slice none 0 0] TCat)) := ((Below.refl _ w).alloc (Nat.le_refl _) _).alloc (by simp) _
  have R : Rw ((w.alloc (.map #[] 0)).alloc (.cells #[.map (some w.heap.size), .slice none 0 0] TCat)) (w.heap.size + 1) TCat [.map (some w.heap.size), .slice none 0 0] := by
    have := Rw.new (w.alloc (.map #[] 0)) [.map (some w.heap.size), .slice none 0 0] TCat
    have hs : (w.alloc (.map #[] 0)).heap.size = w.heap.size + 1 := by simp
    rwa [hs] at this
  refine ⟨w.heap.size + 1, w.heap.size, rfl, ⟨R, ⟨_, (World.ownsMap_made w Try.prog TU plR).alloc _, Ag.empty⟩, World.ownsRow_nil _ _ _ _, Ks.empty, fun k p h => (by cases h), fun k k' p p' g h => (by cases h), fun k p h => (by cases h)⟩, hb, fun j hj => ?_⟩
  rcases hj with rfl | rfl | hj | ⟨k, p, hp, _⟩
  · omega
  · exact Nat.le_refl _
  · simp [Value.ownBlock] at hj
  · cases hp
/-- What All tells: plans in memory of their own. -/
def AllRes (M : Int → Option Pn) (K : List Int) (w : World) (e : Ending) (w' : World) : Prop :=
  ∃ (va : Option Addr) (vc : Nat) (P : List Pf), e = .returned (.slice va P.length vc) ∧ w'.ownsRow w.heap.size TPlan 5 (.slice va P.length vc) P.length (flatN P) ∧ (∀ p ∈ P, w'.ownsRow w.heap.size TPrice 2 (.slice p.a p.x.ps.length p.cap) p.x.ps.length (flatP p.x.ps)) ∧ P.map (fun p => some p.x) = K.map M ∧ Below w.heap.size w w'
theorem own_prs {w : World} {base : Nat} {p : Pf} (h : w.ownsRow base TPrice 2 (.slice p.a p.x.ps.length p.cap) p.x.ps.length (flatP p.x.ps)) : PrsS (fun j => base ≤ j) w p.a p.x.ps := by
  obtain ⟨g, hg, _⟩ := own_pv h
  refine ⟨?_, fun q hq _ => (h.lt q.block (by rw [hq]; rfl)).1⟩
  rw [hg] at h ⊢
  exact prs_own h
theorem all_doc {w : World} {base : Nat} {v : Value} {P : List Pf} (h1 : w.ownsRow base TPlan 5 v P.length (flatN P)) (h2 : ∀ p ∈ P, w.ownsRow base TPrice 2 (.slice p.a p.x.ps.length p.cap) p.x.ps.length (flatP p.x.ps)) : Doc (fun j => base ≤ j) w v P :=
  ⟨own_lower h1 (Nat.zero_le _), fun j hj => (h1.lt j hj).1, fun p hp => own_prs (h2 p hp)⟩
section
variable {w : World} {c bm n : Nat} {tv : Value} {V : Int → Option Pv} {K : List Int}
set_option maxRecDepth 100000 in
theorem all_no (cv : Value) (his : zeroIs w cv) : Calls Try.prog 22 #[cv] w fun e w' => e = .returned (.slice none 0 0) ∧ Below w.heap.size w w' := by
  have HI := Lib.hid (his w (Below.refl _ w))
  clear his
  go_enter Try.func22, Try.ntmps22
  go_wp2_with fail
  refine HI.out.mono ?_
  rintro e w' ⟨rfl, rfl⟩
  go_wp2_with fail
  go_ret
  exact ⟨rfl, Below.refl _ _⟩
set_option maxRecDepth 100000 in
set_option maxHeartbeats 3200000 in
theorem alls_c (h : At w c bm tv n V K) (hK9 : K.length ≤ 1000000) : Calls Try.prog 22 #[.pointer (some ⟨c, 0, none⟩)] w (AllRes (mdl V) K w) := by
  have H := Lib.hid h
  obtain ⟨i0, z0, hi0, hz0, hz1, hz2, hz3⟩ := info_pn
  have KI := Lib.hid (is_c h)
  obtain ⟨ta, tc, rfl⟩ := own_form h.own
  have c1 : w.cell? ⟨c, 1, none⟩ = some (.slice ta K.length tc) := h.blk.cell 1
  clear h
  go_enter Try.func22, Try.ntmps22
  go_wp2_with fail
  refine KI.out.mono ?_
  rintro e w' ⟨rfl, rfl⟩
  go_upto_region 5 with (fail)
  clear KI c1
  go_loopg [3, 14] K.length (fun kx s3 s14 wr => ∃ (i : Nat) (vv : Value) (P : List Pf), s14 = .int .i64 (i : Int) ∧ vv = s3 ∧ i ≤ K.length ∧ P.length = i ∧ Hid (wr.ownsRow w.heap.size TPlan 5 vv i (flatN P)) ∧ Hid (∀ p ∈ P, wr.ownsRow w.heap.size TPrice 2 (.slice p.a p.x.ps.length p.cap) p.x.ps.length (flatP p.x.ps)) ∧ Hid (P.map (fun p => some p.x) = (K.take i).map (mdl V)) ∧ Hid (Below w.heap.size w wr) ∧ K.length ≤ i + kx)
  case atStart => exact ⟨0, _, [], rfl, rfl, Nat.zero_le _, rfl, World.ownsRow_nil _ _ _ _, fun p hp => (by cases hp), (by show _ = _; rfl), Below.refl _ _, by omega⟩
  case round =>
    obtain ⟨i, vv, P, rfl, hvv, hi9, hPi, HO, HRW, HM, HBr, hkx⟩ := hrel
    obtain ⟨a9, c9, rfl⟩ := own_slice HO.out
    subst hvv
    by_cases hlt : i < K.length
    · have HR := Lib.hid (H.out.later HBr.out)
      obtain ⟨ga, gcap, hsl, hc⟩ := own_at HR.out.own hlt
      cases hsl
      obtain ⟨b, hb⟩ : ∃ b, b = K[i] := ⟨_, rfl⟩
      rw [← hb] at hc
      obtain ⟨p, hp⟩ : ∃ p, V b = some p := by
        have := (HR.out.ks.mem b).1 (by rw [hb]; exact List.getElem_mem hlt)
        cases hm : V b with
        | none => rw [hm] at this; cases this
        | some p => exact ⟨p, rfl⟩
      have hok := HR.out.ok b p hp
      have hrun := HR.out.look hok.2.2
      rw [hp] at hrun
      simp only [Option.getD_some] at hrun
      have hln := okB_len hok.1
      have KD : Hid (Calls Try.prog 27 #[p.val] wr fun e w' => ∃ g' cap', e = .returned (.agg #[.int .u64 p.x.id, .string p.x.name, .int .i64 p.x.every, .slice (adr g') p.x.ps.length cap', .int .i64 p.x.ret]) ∧ w'.ownsRow wr.heap.size TPrice 2 (.slice (adr g') p.x.ps.length cap') p.x.ps.length (flatP p.x.ps) ∧ Below wr.heap.size wr w') := (dup_p p.x (adr p.g) p.cap wr (HR.out.prs hp) (own_nil (HR.out.row b p hp)) adr_spot (by omega)).mono fun e w' h => by
        obtain ⟨⟨px, g', cap'⟩, h1, h2, h3, h4⟩ := h
        simp only at h1
        subst h1
        exact ⟨g', cap', h2, h3, h4⟩
      have HT : Hid ((K.take (i + 1)).map (mdl V) = (K.take i).map (mdl V) ++ [some p.x]) := by
        show _ = _
        rw [List.take_succ_eq_append_getElem hlt, ← hb, List.map_append, List.map_singleton]
        unfold mdl
        rw [hp]
        rfl
      have c0 : wr.cell? ⟨c, 0, none⟩ = some (.map (some bm)) := HR.out.blk.cell 0
      have j0 : (0 : Int) ≤ (i : Int) := by omega
      have j1 : (i : Int) < (K.length : Int) := by omega
      clear hb hok hln hp HR
      obtain ⟨⟨id, name, every, L, ret⟩, pg, pc⟩ := p
      unfold Pv.val Pn.val at hrun KD
      simp only at hrun KD HT
      go_wp2_with fail
      refine KD.out.mono ?_
      rintro _ u ⟨g', cap', rfl, ho, hb5⟩
      have HO5 := Lib.hid (own_later HO.out hb5)
      have HB5 : Hid (Below w.heap.size w u) := HBr.out.trans (hb5.mono HBr.out.size)
      have HRW5 : Hid (∀ p ∈ P, u.ownsRow w.heap.size TPrice 2 (.slice p.a p.x.ps.length p.cap) p.x.ps.length (flatP p.x.ps)) := fun p hp => own_later (HRW.out p hp) hb5
      have HN5 := Lib.hid (own_lower ho HBr.out.size)
      clear hb5 ho KD hc hrun c0
      have hs5 := HB5.out.size
      obtain ⟨ad, had⟩ : ∃ ad, ad = adr g' := ⟨_, rfl⟩
      rw [← had] at HN5 ⊢
      clear had
      go_wp2_with (at_builtin; refine wpList_append_own_at _ rfl _ _ TPlans rfl w.heap.size TPlan i0 z0 5 64 Try.underlying27 hi0 hz0 hz1 hz2 hz3 (by decide) _ _ _ rfl (HO5.out.alloc _) ⟨u.heap.size, 0, none⟩ 1 1 [.int .u64 id, .string name, .int .i64 every, .slice ad L.length cap', .int .i64 ret] rfl rfl (new_plan _ ⟨⟨id, name, every, L, ret⟩, ad, cap'⟩) (by simp [Value.oneCell']) (by unfold maxLen; omega) (by omega) (by simp; omega) ?_)
      intro v2 w2 hown2 hg2 hnil2 hat2
      have HB6 : Hid (Below w.heap.size w w2) := (HB5.out.alloc hs5 _).grown hg2 (by simp; omega) (fun j hj => (HO5.out.lt j hj).1)
      have kp : Keeps (fun j => (Value.slice a9 i c9).ownBlock = some j) u w2 := ((Keeps.refl (fun j => (Value.slice a9 i c9).ownBlock = some j) u).alloc _).grown hg2 fun j hj => .inl hj
      have HRW6 : Hid (∀ p ∈ P ++ [(⟨⟨id, name, every, L, ret⟩, ad, cap'⟩ : Pf)], w2.ownsRow w.heap.size TPrice 2 (.slice p.a p.x.ps.length p.cap) p.x.ps.length (flatP p.x.ps)) := fun p hp => by
        have h1 : u.ownsRow w.heap.size TPrice 2 (.slice p.a p.x.ps.length p.cap) p.x.ps.length (flatP p.x.ps) := by
          rcases List.mem_append.1 hp with h | h
          · exact HRW5.out p h
          · rw [List.mem_singleton] at h
            subst h
            exact HN5.out
        exact own_keeps h1 kp fun j hj hj' => own_own HO5.out h1 (by decide) j hj' hj
      have HM6 : Hid ((P ++ [(⟨⟨id, name, every, L, ret⟩, ad, cap'⟩ : Pf)]).map (fun p => some p.x) = (K.take (i + 1)).map (mdl V)) := by
        show _ = _
        rw [HT.out, ← HM.out, List.map_append]
        rfl
      have HO6 : Hid (w2.ownsRow w.heap.size TPlan 5 v2 (i + 1) (flatN (P ++ [(⟨⟨id, name, every, L, ret⟩, ad, cap'⟩ : Pf)]))) := by
        have e : flatN (P ++ [(⟨⟨id, name, every, L, ret⟩, ad, cap'⟩ : Pf)]) = flatN P ++ [.int .u64 id, .string name, .int .i64 every, .slice ad L.length cap', .int .i64 ret] := by rw [flatN_app]; rfl
        show w2.ownsRow _ _ _ _ _ _
        rw [e]
        exact hown2
      clear hown2 hg2 hnil2 hat2 kp HRW5 HN5 HO5 HB5 HT HM HRW HO
      go_wp2_with fail
      go_roundg (K.length - (i + 1))
      case measure => omega
      case rel => exact ⟨i + 1, _, P ++ [(⟨⟨id, name, every, L, ret⟩, ad, cap'⟩ : Pf)], by simp, rfl, by omega, by simp [hPi], HO6, HRW6, HM6, HB6, by omega⟩
    · obtain rfl : i = K.length := by omega
      clear hkx hlt hi9
      go_wp2_with fail
      go_ret
      have h1 := HM.out
      rw [List.take_length] at h1
      refine ⟨a9, c9, P, by rw [hPi]; rfl, ?_, HRW.out, h1, HBr.out⟩
      rw [hPi]
      exact HO.out
end
end Go.Proofs.Ytakpoabpgdmneaa.Pl
