/- Package drive: the reference's Write. -/
import Derived.Test.YthoafaaemikiaaaDvRd
import Derived.Deep.DeepCutAuto
import Derived.Outline
namespace Go.Proofs.Ythoafaaemikiaaa.Dv
open Go Go.RowKit Rf
theorem infoStr : (Try.prog.info? TStr).map (fun i => (i.zero, i.size, i.bytes)) = some (some (.string ⟨#[]⟩), 1, 16) := by kernel_rfl
theorem infoInt : (Try.prog.info? TInt).map (fun i => (i.zero, i.size, i.bytes)) = some (some (.int .i64 0), 1, 8) := by kernel_rfl
theorem own_slice {w : World} {b e sz n : Nat} {v : Value} {xs : List Value} (h : w.ownsRow b e sz v n xs) : ∃ a c, v = .slice a n c := by
  rcases h.2 with ⟨rfl, rfl⟩ | ⟨g, cap, cur, rfl, _⟩
  · exact ⟨_, _, rfl⟩
  · exact ⟨_, _, rfl⟩
theorem own_form' {w : World} {base e size n : Nat} {v : Value} {xs : List Value} (h : w.ownsRow base e size v n xs) (hn : 1 ≤ n) : ∃ g cap, v = .slice (some ⟨g, 0, none⟩) n cap := by
  rcases h.2 with ⟨_, h0⟩ | ⟨g, cap, cur, rfl, _⟩
  · omega
  · exact ⟨g, cap, rfl⟩
theorem one_new' (W : World) (a : Value) (t : TypeId) : ∀ (j : Nat) (u : Value), [a][j]? = some u → (W.alloc (.cells #[a] t)).cell? (Addr.add ⟨W.heap.size, 0, none⟩ j) = some u := by
  intro j u h
  have e : Addr.add ⟨W.heap.size, 0, none⟩ j = ⟨W.heap.size, j, none⟩ := by unfold Addr.add; simp; exact fun h => h.symm
  rw [e]
  rcases j with _|j
  · simp at h; subst h; simp [go_sem]
  · simp at h
theorem bs_pad (s : ByteArray) : s ++ (zb 64).extract s.size 64 = bs (pad s.data.toList) := by
  have h1 : ((zb 64).extract s.size 64).data.toList = List.replicate (64 - s.size) 0 := by
    rw [ByteArray.data_extract, Array.toList_extract]
    show List.take (64 - s.size) (List.drop s.size (List.replicate 64 0)) = _
    rw [List.drop_replicate, List.take_replicate, Nat.min_self]
  have e : (s ++ (zb 64).extract s.size 64 : ByteArray).data.toList = pad s.data.toList := by
    rw [ByteArray.data_append, Array.toList_append, h1]
    unfold pad
    rw [Array.length_toList]
    rfl
  generalize (s ++ (zb 64).extract s.size 64 : ByteArray) = a at e
  cases a with
  | mk d => unfold bs; rw [← e]
theorem write_far {x : Dr} {n : Int} {s : Sec} {y : Dr} {z : Int} (hz : x.write n s = (y, z)) (h : n < 0 ∨ (x.D.length : Int) ≤ n) : y = x ∧ z = 2 := by
  unfold Dr.write at hz; rw [if_pos h] at hz; cases hz; exact ⟨rfl, rfl⟩
theorem write_long {x : Dr} {n : Int} {s : Sec} {y : Dr} {z : Int} (hz : x.write n s = (y, z)) (h : ¬ (n < 0 ∨ (x.D.length : Int) ≤ n)) (hs : 64 < s.length) : y = x ∧ z = 3 := by
  unfold Dr.write at hz; rw [if_neg h, if_pos hs] at hz; cases hz; exact ⟨rfl, rfl⟩
theorem write_down {x : Dr} {n : Int} {s : Sec} {y : Dr} {z : Int} (hz : x.write n s = (y, z)) (h : ¬ (n < 0 ∨ (x.D.length : Int) ≤ n)) (hs : ¬ 64 < s.length) (hF : burn x.F = none) : y = x ∧ z = 30 := by
  unfold Dr.write at hz; rw [if_neg h, if_neg hs, hF] at hz; cases hz; exact ⟨rfl, rfl⟩
theorem write_done {x : Dr} {n : Int} {s : Sec} {y : Dr} {z : Int} {F : Option Nat} (hz : x.write n s = (y, z)) (h : ¬ (n < 0 ∨ (x.D.length : Int) ≤ n)) (hs : ¬ 64 < s.length) (hF : burn x.F = some F) : y = ⟨x.D, x.P ++ [(n.toNat, pad s)], F⟩ ∧ z = 0 := by
  unfold Dr.write at hz; rw [if_neg h, if_neg hs, hF] at hz; cases hz; exact ⟨rfl, rfl⟩
theorem AfterR.same {S : Nat → Prop} {w : World} {g : Nat} {x : Dr} (h : Rs S w g x) : AfterR S w g x w := ⟨h.mono fun _ h => Or.inl h, Keeps.refl _ _⟩
set_option maxRecDepth 100000 in
set_option maxHeartbeats 4000000 in
theorem rwrite_c (S : Nat → Prop) (g : Nat) (x y : Dr) (n : Int) (s : ByteArray) (z : Int) (w : World) (h : Rs S w g x) (hx : x.Ok) (hP : x.P.length ≤ 100000) (hs : s.size ≤ 9223372036854775807) (hz : x.write n s.data.toList = (y, z)) :
    Calls Try.prog 10 #[.pointer (some ⟨g, 0, Option.none⟩), .int .i64 n, .string s] w fun e w' => e = .returned (.int .i64 z) ∧ AfterR S w g y w' := by
  have HS := Lib.hid h
  obtain ⟨nv, sv, av, ov, R, hB⟩ := h
  have hvl := Dr.vlen x
  have hm1 : x.D.length ≤ 4096 := hx.n2
  have hm0 : 1 ≤ x.D.length := hx.n1
  obtain ⟨bn, cn, rfl⟩ := own_form' R.now (by rw [hvl]; exact hm0)
  have c0 : w.cell? ⟨g, 0, none⟩ = some (.slice (some ⟨bn, 0, none⟩) x.V.length cn) := R.blk.cell 0
  rw [hvl] at c0
  have HR := Lib.hid R
  have HB := Lib.hid hB
  clear R hB
  obtain ⟨m, hm⟩ : ∃ m, m = x.D.length := ⟨_, rfl⟩
  have HM := Lib.hid hm
  rw [← hm] at c0 hm1 hm0
  by_cases hfar : n < 0 ∨ (x.D.length : Int) ≤ n
  · obtain ⟨rfl, rfl⟩ := write_far hz hfar
    rw [← hm] at hfar
    clear hz hm hvl
    by_cases h1 : n < 0
    · have d1 : decide (n < 0) = true := decide_eq_true h1
      go_enter Try.func10, Try.ntmps10
      go_wp2_with fail
      go_ret
      exact ⟨rfl, AfterR.same HS.out⟩
    · have d1 : decide (n < 0) = false := decide_eq_false h1
      have h2 : (m : Int) ≤ n := by omega
      have d2 : decide ((m : Int) ≤ n) = true := decide_eq_true h2
      go_enter Try.func10, Try.ntmps10
      go_wp2_with fail
      go_ret
      exact ⟨rfl, AfterR.same HS.out⟩
  have h1 : ¬ n < 0 := by omega
  have d1 : decide (n < 0) = false := decide_eq_false h1
  have h2 : ¬ (m : Int) ≤ n := by omega
  have d2 : decide ((m : Int) ≤ n) = false := decide_eq_false h2
  by_cases hlong : 64 < s.data.toList.length
  · obtain ⟨rfl, rfl⟩ := write_long hz hfar hlong
    have h3 : (64 : Int) < (s.size : Int) := by have : s.size = s.data.toList.length := by rw [Array.length_toList]; rfl
                                                omega
    clear hz hm hvl hfar hlong
    go_enter Try.func10, Try.ntmps10
    go_wp2_with fail
    go_ret
    exact ⟨rfl, AfterR.same HS.out⟩
  have hsz : s.size = s.data.toList.length := by rw [Array.length_toList]; rfl
  have hs64 : s.size ≤ 64 := by omega
  have h3 : ¬ (64 : Int) < (s.size : Int) := by omega
  cases hF : burn x.F with
  | none =>
    obtain ⟨rfl, rfl⟩ := write_down hz hfar hlong hF
    have KB := Lib.hid (blown_no g TRD _ _ _ _ _ w HR.out.blk hF)
    clear hz hm hvl hfar hlong hsz hF
    go_enter Try.func10, Try.ntmps10
    go_wp2_with fail
    refine KB.out.mono ?_
    rintro e w1 ⟨rfl, rfl⟩
    go_wp2_with fail
    go_ret
    exact ⟨rfl, AfterR.same HS.out⟩
  | some F =>
    obtain ⟨rfl, rfl⟩ := write_done hz hfar hlong hF
    have KB := Lib.hid (blown_yes g TRD _ _ _ _ _ F w HR.out.blk hF hx.f)
    obtain ⟨k, rfl⟩ := Int.eq_ofNat_of_zero_le (show 0 ≤ n by omega)
    have hkm : k < m := by omega
    have EP := Lib.hid (bs_pad s)
    obtain ⟨i0, hi, hz0, hz1, hz2⟩ := info_parts infoStr
    obtain ⟨i1, hj, hy0, hy1, hy2⟩ := info_parts infoInt
    have zz : (zb 64).size = 64 := by unfold zb; simp [ByteArray.size]
    clear hz hm hvl hfar hlong hsz hF HS
    go_enter Try.func10, Try.ntmps10
    go_wp2_with fail
    refine KB.out.mono ?_
    rintro e w1 ⟨rfl, b1, k1⟩
    have R1 : RDv w1 g (.slice (some ⟨bn, 0, none⟩) x.V.length cn) sv av ov x.V x.D (x.P.map Prod.fst) (x.P.map Prod.snd) F :=
      ⟨b1, own_keeps HR.out.now k1 fun j hj e => HR.out.gn (by rw [hj, e]), own_keeps HR.out.sure k1 fun j hj e => HR.out.gs (by rw [hj, e]), own_keeps HR.out.at_ k1 fun j hj e => HR.out.ga (by rw [hj, e]), own_keeps HR.out.op k1 fun j hj e => HR.out.go (by rw [hj, e]), HR.out.ns, HR.out.no, HR.out.so⟩
    have K1 : Hid (Keeps S w w1) := k1.mono fun j hj => .inl (HB.out j (.inl hj))
    obtain ⟨A, hA⟩ : ∃ A, A = x.P.map Prod.fst := ⟨_, rfl⟩
    obtain ⟨O, hO⟩ : ∃ O, O = x.P.map Prod.snd := ⟨_, rfl⟩
    have la : A.length ≤ 100000 := by rw [hA, List.length_map]; exact hP
    have lo : O.length ≤ 100000 := by rw [hO, List.length_map]; exact hP
    rw [← hA, ← hO] at R1
    have HAO := Lib.hid (And.intro hA hO)
    clear hA hO
    have HR1 := Lib.hid R1
    clear R1 k1 b1 c0 KB HR
    have c0 : w1.cell? ⟨g, 0, none⟩ = some (.slice (some ⟨bn, 0, none⟩) m cn) := by have := HR1.out.blk.cell 0; rw [HM.out, ← Dr.vlen x]; exact this
    have hlb := (HR1.out.now.lt bn rfl).2
    have cb := HR1.out.now.cellAt k (by rw [Dr.vlen, ← HM.out]; omega)
    have fb := HR1.out.now.frozenAt k
    rw [List.getElem?_eq_getElem (by unfold strs; rw [List.length_map, Dr.vlen, ← HM.out]; exact hkm)] at cb
    generalize (strs x.V)[k]'(by unfold strs; rw [List.length_map, Dr.vlen, ← HM.out]; exact hkm) = y0 at cb
    go_upto_region 8 with (first | (go_at_call 22; refine (zero_c _).mono ?_; rintro e w' ⟨rfl, rfl⟩))
    rw [EP.out]
    have hpl : (pad s.data.toList).length = 64 := pad_len (by have : s.size = s.data.toList.length := by rw [Array.length_toList]; rfl
                                                              omega)
    obtain ⟨q, hq⟩ : ∃ q, q = pad s.data.toList := ⟨_, rfl⟩
    rw [← hq] at hpl ⊢
    have HQ := Lib.hid hq
    clear hq EP
    obtain ⟨av0, ca, rfl⟩ := own_slice HR1.out.at_
    obtain ⟨ov0, co, rfl⟩ := own_slice HR1.out.op
    have R2 := HR1.out.setN rfl k q
    have K2 : Hid (Keeps S w (w1.setCell ⟨bn, k, none⟩ (.string (bs q)))) := K1.out.setCell bn k _ (.inl (HB.out bn (.inr (.inl rfl))))
    go_upto_region 9 with (fail)
    have HR2 := Lib.hid R2
    clear R2 HR1 K1 c0 cb fb hlb
    generalize w1.setCell ⟨bn, k, none⟩ (.string (bs q)) = w2 at HR2 K2 ⊢
    have c2 : w2.cell? ⟨g, 2, none⟩ = some (.slice av0 A.length ca) := HR2.out.blk.cell 2
    go_wp2_with (at_builtin; refine wpList_append_own_at _ rfl _ _ 44 rfl 0 TInt i1 (.int .i64 0) 1 8 Try.underlying44 hj hy0 hy1 hy2 rfl (by decide) _ _ _ rfl (HR2.out.at_.alloc _) ⟨w2.heap.size, 0, none⟩ 1 1 [.int .i64 (k : Int)] rfl rfl (one_new' _ _ _) (by simp [Value.oneCell']) (by unfold maxLen; omega) (by omega) (by simp) ?_)
    intro av' w3 hown hgrow hnil hat
    obtain ⟨aa, ac, rfl⟩ := own_slice hown
    have X3 := HR2.out.appA _ k hown hgrow
    have gl := HR2.out.blk.lt
    have c2' : w3.cell? ⟨g, 2, none⟩ = some (.slice av0 A.length ca) := by
      rw [World.cell?_of_block (hgrow.block g (by simp; omega) (fun e => HR2.out.ga e.symm)), World.cell?_alloc_past _ _ _ gl]; exact c2
    have f2' : w3.frozen? ⟨g, 2, none⟩ = false := by
      rw [World.frozen?_of_block (hgrow.block g (by simp; omega) (fun e => HR2.out.ga e.symm))]; exact (HR2.out.blk.later ((Below.refl _ w2).alloc (Nat.le_refl _) _)).frozen 2
    have K3 : Hid (Keeps S w (w3.setCell ⟨g, 2, none⟩ (.slice aa (A.length + 1) ac : Value))) := K2.out.then X3.2 (fun j hj => .inl (by
      rcases hj with rfl | hj
      · exact HB.out j (.inl rfl)
      · exact HB.out j (.inr (.inr (.inr (.inl hj))))))
    have HA3 : Hid (∀ j, (Value.slice aa (A.length + 1) ac).ownBlock = some j → S j ∨ w.heap.size ≤ j) := fun j hj => by
      rcases hat with h | h
      · exact .inl (HB.out j (.inr (.inr (.inr (.inl (h ▸ hj))))))
      · rw [h] at hj; have := K2.out.size; right; simp at hj; omega
    have HR3 := Lib.hid X3.1
    clear X3 HR2 K2 hown hgrow hnil hat c2
    go_upto_region 10 with (fail)
    clear c2' f2'
    generalize w3.setCell ⟨g, 2, none⟩ (.slice aa (A.length + 1) ac : Value) = w4 at HR3 K3 ⊢
    have c3 : w4.cell? ⟨g, 3, none⟩ = some (.slice ov0 O.length co) := HR3.out.blk.cell 3
    go_wp2_with (at_builtin; refine wpList_append_own_at _ rfl _ _ 43 rfl 0 TStr i0 (.string ⟨#[]⟩) 1 16 Try.underlying43 hi hz0 hz1 hz2 rfl (by decide) _ _ _ rfl (HR3.out.op.alloc _) ⟨w4.heap.size, 0, none⟩ 1 1 [.string (bs q)] rfl rfl (one_new' _ _ _) (by simp [Value.oneCell']) (by unfold maxLen; omega) (by omega) (by simp) ?_)
    intro ov' w5 hown hgrow hnil hat
    obtain ⟨oa, oc, rfl⟩ := own_slice hown
    have X5 := HR3.out.appO _ q hown hgrow (by simpa using hat)
    have gl := HR3.out.blk.lt
    have c3' : w5.cell? ⟨g, 3, none⟩ = some (.slice ov0 O.length co) := by
      rw [World.cell?_of_block (hgrow.block g (by simp; omega) (fun e => HR3.out.go e.symm)), World.cell?_alloc_past _ _ _ gl]; exact c3
    have f3' : w5.frozen? ⟨g, 3, none⟩ = false := by
      rw [World.frozen?_of_block (hgrow.block g (by simp; omega) (fun e => HR3.out.go e.symm))]; exact (HR3.out.blk.later ((Below.refl _ w4).alloc (Nat.le_refl _) _)).frozen 3
    have K5 : Hid (Keeps S w (w5.setCell ⟨g, 3, none⟩ (.slice oa (O.length + 1) oc : Value))) := K3.out.then X5.2 (fun j hj => .inl (by
      rcases hj with rfl | hj
      · exact HB.out j (.inl rfl)
      · exact HB.out j (.inr (.inr (.inr (.inr hj))))))
    have HO5 : Hid (∀ j, (.slice oa (O.length + 1) oc : Value).ownBlock = some j → S j ∨ w.heap.size ≤ j) := fun j hj => by
      rcases hat with h | h
      · exact .inl (HB.out j (.inr (.inr (.inr (.inr (h ▸ hj))))))
      · rw [h] at hj; have := K3.out.size; right; simp at hj; omega
    have HR5 := Lib.hid X5.1
    clear X5 HR3 K3 hown hgrow hnil hat c3
    go_wp2_with fail
    go_ret
    obtain ⟨rfl, rfl⟩ := HAO.out
    obtain rfl := HQ.out
    refine ⟨rfl, ⟨.slice (some ⟨bn, 0, none⟩) x.V.length cn, sv, .slice aa ((x.P.map Prod.fst).length + 1) ac, .slice oa ((x.P.map Prod.snd).length + 1) oc, ?_, ?_⟩, K5.out⟩
    · have := HR5.out
      have e1 : (x.P ++ [((k : Int).toNat, pad s.data.toList)]).map Prod.fst = x.P.map Prod.fst ++ [k] := by simp
      have e2 : (x.P ++ [((k : Int).toNat, pad s.data.toList)]).map Prod.snd = x.P.map Prod.snd ++ [pad s.data.toList] := by simp
      have e3 : Dr.V ⟨x.D, x.P ++ [((k : Int).toNat, pad s.data.toList)], F⟩ = x.V.set k (pad s.data.toList) := by
        unfold Dr.V; rw [Int.toNat_natCast, puts_snoc]
      rw [e1, e2, e3]
      exact this
    · rintro j (rfl | hj | hj | hj | hj)
      · exact .inl (HB.out j (.inl rfl))
      · exact .inl (HB.out j (.inr (.inl hj)))
      · exact .inl (HB.out j (.inr (.inr (.inl hj))))
      · exact HA3.out j hj
      · exact HO5.out j hj
end Go.Proofs.Ythoafaaemikiaaa.Dv
