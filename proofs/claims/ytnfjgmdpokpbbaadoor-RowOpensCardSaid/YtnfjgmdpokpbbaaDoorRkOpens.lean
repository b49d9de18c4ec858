/- RowOpens: the law. -/
import Derived.Test.YtnfjgmdpokpbbaaDoorRkHead
namespace Go.Proofs.YtnfjgmdpokpbbaaDoor.Rk
open Go Go.RowKit Dv Rf Shf
open Tal (Strs bas)
/-- A drive of 16 sectors, some of them written. -/
structure Wd (S : Nat → Prop) (w : World) (g : Nat) (x : Dr) (k : Nat) : Prop where
  os : Dv.Os S w g x
  ok : x.Ok
  F : x.F = none
  D : x.D.length = 16
  P : x.P.length ≤ k
theorem Wd.write {S : Nat → Prop} {w : World} {g : Nat} {x : Dr} {k : Nat} (h : Wd S w g x k) (i : Nat) (hi : i < 16) (t : ByteArray) (ht : t.size ≤ 64) (hk : k ≤ 16) : Calls Tryd.prog 21 #[.pointer (some ⟨g, 0, Option.none⟩), .int .i64 (i : Int), .string t] w fun e w' => e = .returned (.int .i64 0) ∧ (∃ x', Wd (fun j => S j ∨ w.heap.size ≤ j) w' g x' (k + 1)) ∧ Keeps S w w' := by
  have hb : burn x.F = some none := by rw [h.F]; rfl
  have htl : t.data.toList.length = t.size := by simp
  have e : x.write (i : Int) t.data.toList = (⟨x.D, x.P ++ [((i : Int).toNat, pad t.data.toList)], none⟩, 0) := by
    unfold Dr.write
    rw [if_neg (by have := h.D; omega), if_neg (by omega), hb]
  have hok := h.ok.write (i : Int) t.data.toList
  rw [e] at hok
  refine (os_write h.os h.ok (by have := h.P; omega) (i : Int) t (by omega) 0 e).mono fun e w' hr => ⟨hr.1, ⟨_, ⟨hr.2.1, hok, rfl, h.D, ?_⟩⟩, hr.2.2⟩
  simp
  exact h.P
set_option maxRecDepth 100000 in
set_option maxHeartbeats 6400000 in
theorem opens_law (a : Option Addr) (cap : Nat) (L : List ByteArray) (f n : Int) (w : World) (hL : Strs w a L) (hl : L.length ≤ 9223372036854775807) (hs : ∀ s ∈ L, s.size ≤ 9223372036854775807) (bf : -9223372036854775808 ≤ f ∧ f ≤ 9223372036854775807) (bn : -9223372036854775808 ≤ n ∧ n ≤ 9223372036854775807) :
    Calls Tryd.prog 4 #[.slice a L.length cap, .int .i64 f, .int .i64 n] w fun e w' => e = .returned (.bool true) ∧ Below w.heap.size w w' := by
  obtain ⟨f0, f1⟩ := bf
  obtain ⟨n0, n1⟩ := bn
  have HL := Lib.hid hL
  have HSZ := Lib.hid hs
  clear hL hs
  obtain ⟨i0, hi, hz0, hz1, hz2⟩ := info_parts infoStr
  go_enter Tryd.func4, Tryd.ntmps4
  go_wp2_with fail
  refine (os_new 16 (by decide) (by decide) _).mono ?_
  rintro e w1 ⟨g, rfl, ho, hb⟩
  have T0 : Hid (Wd (fun j => w.heap.size ≤ j) w1 g (Dr.new 16) 0) := ⟨ho, Dr.new_ok 16 (by decide) (by decide), rfl, rfl, Nat.le_refl _⟩
  have HB := Lib.hid hb
  clear ho hb
  go_wp2_with fail
  go_loopg [9] 16 (fun kx s9 wr => ∃ (i : Nat) (x : Dr), s9 = .int .i64 (i : Int) ∧ i ≤ 16 ∧ i ≤ L.length ∧ Hid (Wd (fun j => w.heap.size ≤ j) wr g x i) ∧ Hid (Below w.heap.size w wr) ∧ 16 ≤ i + kx)
  case atStart => exact ⟨0, _, rfl, by omega, by omega, T0, HB, by omega⟩
  case round =>
    clear T0 HB
    obtain ⟨i, x, rfl, hi16, hiL, TT, HB, hkx⟩ := hrel
    by_cases hlt : i < L.length
    · by_cases hlt2 : i < 16
      · obtain ⟨b, off, rfl, hbl, hcw⟩ := HL.out i hlt
        have hc := (HB.out.cell (p := ⟨b, off + i, none⟩) hbl).trans hcw
        have HBL := Lib.hid hbl
        have HLN := Lib.hid hlt
        have hsz := HSZ.out L[i] (List.getElem_mem hlt)
        obtain ⟨y, hy⟩ : ∃ y, L[i]'hlt = y := ⟨_, rfl⟩
        replace hc : wr.cell? ⟨b, off + i, none⟩ = some (.string y) := by rw [hc, ← hy]
        replace hcw : w.cell? ⟨b, off + i, none⟩ = some (.string y) := by rw [hcw, ← hy]
        replace hsz : y.size ≤ 9223372036854775807 := by rw [← hy]; exact hsz
        have HCW := Lib.hid hcw
        clear hcw
        have q0 : (0 : Int) ≤ (i : Int) := by omega
        have q1 : (i : Int) < (L.length : Int) := by omega
        have q2 : (i : Int) < 16 := by omega
        obtain ⟨m, hm⟩ : ∃ m : Nat, m = min y.size 64 := ⟨_, rfl⟩
        have hm1 : m ≤ y.size := by omega
        have hm64 : m ≤ 64 := by omega
        have e1 : min (y.size : Int) 64 = (m : Int) := by omega
        have E1 := Lib.hid e1
        have KW : Hid (∀ u : World, Below wr.heap.size wr u → Calls Tryd.prog 21 #[.pointer (some ⟨g, 0, Option.none⟩), .int .i64 (i : Int), .string (y.extract 0 m)] u fun e w' => e = .returned (.int .i64 0) ∧ (∃ x', Wd (fun j => w.heap.size ≤ j) w' g x' (i + 1)) ∧ Below w.heap.size w w') := fun u hu => by
          have t := TT.out
          have hs := HB.out.size
          refine (Wd.write (S := fun j => w.heap.size ≤ j) ⟨t.os.later hu, t.ok, t.F, t.D, t.P⟩ i hlt2 (y.extract 0 m) (by simp; omega) (by omega)).mono fun e w' hr => ⟨hr.1, ?_, ?_⟩
          · obtain ⟨x', h⟩ := hr.2.1
            exact ⟨x', h.os.mono fun j hj => hj.elim id fun hj => Nat.le_trans hs (Nat.le_trans hu.size hj), h.ok, h.F, h.D, h.P⟩
          · exact (HB.out.trans (hu.mono hs)).trans (hr.2.2.below (fun j hj => hj) (Nat.le_trans hs hu.size))
        clear hy hm e1 hbl
        go_upto_region 5 with (fail)
        have e1 := E1.out
        have e2 : (0 : Int) ≤ (m : Int) := by omega
        have e3 : (m : Int) ≤ (y.size : Int) := by omega
        go_region_held3 (fun u => u.cell? ⟨b, off + i, none⟩ = some (.string y)) (go_keep) ((go_at_call 21; refine (KW.out _ ((Below.refl _ _).drew)).mono ?_; rintro e w' ⟨rfl, hx', hb'⟩; have HX := Lib.hid hx'; have HB5 := Lib.hid hb'; clear hx' hb'; have c' := (HB5.out.cell (p := ⟨b, off + i, none⟩) HBL.out).trans HCW.out))
        obtain ⟨x', hx'⟩ := HX.out
        have TT2 := Lib.hid hx'
        clear hx' hc c' e1 e2 e3
        go_wp2_with fail
        go_roundg (16 - (i + 1))
        case measure => omega
        case rel => exact ⟨i + 1, x', by simp, by omega, by omega, TT2, HB5, by omega⟩
      · obtain rfl : i = 16 := by omega
        have q9 : ¬ (16 : Int) < 16 := by omega
        clear hkx hi16 hlt2
        have HP16 : Hid (x.P.length ≤ 16) := Nat.le_trans TT.out.P (by omega)
        have KOS : Hid (Dv.Os (fun j => w.heap.size ≤ j) wr g x) := TT.out.os
        have HOK := Lib.hid TT.out.ok
        have hD := TT.out.D
        have hVl : x.V.length = x.D.length := Dr.vlen x
        have HD := Lib.hid hD
        have HV := Lib.hid hVl
        have KOUT : Hid (f < 0 ∨ n < 1 ∨ 16 < f ∨ 16 - f < n → Calls Tryd.prog 7 #[.pointer (some ⟨g, 0, none⟩), .int .i64 f, .int .i64 n] wr fun e w' => e = .returned (.tuple #[.pointer none, .int .i64 2]) ∧ wr = w') := fun h =>
          open_out KOS.out HOK.out f n f0 f1 n0 n1 (by unfold Dr.n; rw [HD.out]; omega)
        have KH : Hid (∀ u : World, Below w.heap.size w u → Calls Tryd.prog 9 #[] u fun e w' => e = .returned (.bool true) ∧ Below w.heap.size w w') := fun u hu =>
          (head_c u).mono fun e w' h => ⟨h.1, hu.trans (h.2.mono hu.size)⟩
        clear hD hVl TT
        by_cases a : f < 0
        · have KO2 := Lib.hid (KOUT.out (.inl a))
          clear KOUT
          go_wp2_with fail
          refine KO2.out.mono ?_
          rintro e w' ⟨rfl, rfl⟩
          go_wp2_with fail
          refine (KH.out _ HB.out).mono ?_
          rintro e w3 ⟨rfl, hb⟩
          have HB3 := Lib.hid hb
          clear hb
          go_wp2_with fail
          go_ret
          exact ⟨rfl, HB3.out⟩
        · by_cases b : n < 1
          · have KO2 := Lib.hid (KOUT.out (.inr (.inl b)))
            clear KOUT
            go_wp2_with fail
            refine KO2.out.mono ?_
            rintro e w' ⟨rfl, rfl⟩
            go_wp2_with fail
            refine (KH.out _ HB.out).mono ?_
            rintro e w3 ⟨rfl, hb⟩
            have HB3 := Lib.hid hb
            clear hb
            go_wp2_with fail
            go_ret
            exact ⟨rfl, HB3.out⟩
          · by_cases c : 16 < f
            · have KO2 := Lib.hid (KOUT.out (.inr (.inr (.inl c))))
              clear KOUT
              go_wp2_with fail
              refine KO2.out.mono ?_
              rintro e w' ⟨rfl, rfl⟩
              go_wp2_with fail
              refine (KH.out _ HB.out).mono ?_
              rintro e w3 ⟨rfl, hb⟩
              have HB3 := Lib.hid hb
              clear hb
              go_wp2_with fail
              go_ret
              exact ⟨rfl, HB3.out⟩
            · by_cases d : 16 - f < n
              · have KO2 := Lib.hid (KOUT.out (.inr (.inr (.inr d))))
                clear KOUT
                go_wp2_with fail
                refine KO2.out.mono ?_
                rintro e w' ⟨rfl, rfl⟩
                go_wp2_with fail
                refine (KH.out _ HB.out).mono ?_
                rintro e w3 ⟨rfl, hb⟩
                have HB3 := Lib.hid hb
                clear hb
                go_wp2_with fail
                go_ret
                exact ⟨rfl, HB3.out⟩
              · have KO2 : Hid (∃ (fn nn : Nat), f = (fn : Int) ∧ n = (nn : Int) ∧ 1 ≤ nn ∧ fn + nn ≤ 16) := ⟨f.toNat, n.toNat, by omega, by omega, by omega, by omega⟩
                obtain ⟨fn, nn, rfl, rfl, hn1, hfn⟩ := KO2.out
                have KO3 : Hid (Calls Tryd.prog 7 #[.pointer (some ⟨g, 0, none⟩), .int .i64 (fn : Int), .int .i64 (nn : Int)] wr (OpRes x fn nn g wr)) := open_c KOS.out HOK.out fn nn hn1 (by omega) (by rw [HD.out]; omega)
                clear KO2 KOUT f0 f1 n0 n1 a b c d
                have a : ¬ (fn : Int) < 0 := by omega
                have b : ¬ (nn : Int) < 1 := by omega
                have c : ¬ (16 : Int) < (fn : Int) := by omega
                have d : ¬ (16 : Int) - (fn : Int) < (nn : Int) := by omega
                go_wp2_with fail
                refine KO3.out.mono ?_
                intro e w3 hr
                obtain ⟨r, s, rfl, hs, hB2, hb⟩ := op_both KOS.out hr
                have HS := Lib.hid hs
                have HBB : Hid (Both (fun j => w.heap.size ≤ j ∧ j < w3.heap.size) w3 r g x ⟨fn, nn, s, Sf.top (seg x.V fn nn), false⟩) := (hB2.mono fun j hj => hj.elim id fun h => Nat.le_trans HB.out.size h).lt
                have HB3 : Hid (Below w.heap.size w w3) := HB.out.trans (hb.mono HB.out.size)
                clear hs hB2 hb hr
                go_wp2_with fail
                obtain ⟨wo, hwo⟩ : ∃ wo, wo = w3 := ⟨_, rfl⟩
                have T0 : Hid (Below w3.heap.size w3 w3) := Below.refl _ _
                go_loopg [12, 13] nn (fun kx s12 s13 wr => ∃ k : Nat, k ≤ nn ∧ s13 = .int .i64 (k : Int) ∧ Hid (wr.ownsRow w3.heap.size TStr 1 s12 k ((seg x.V fn k).map sv)) ∧ Hid (Below w3.heap.size w3 wr) ∧ nn ≤ k + kx)
                case atStart => exact ⟨0, Nat.zero_le _, rfl, World.ownsRow_nil _ _ _ _, T0, by omega⟩
                case round =>
                  obtain ⟨k, hk, rfl, HO, HB4, hkx⟩ := hrel
                  clear hwo T0
                  by_cases hlk : k < nn
                  · have KR : Hid (∀ u : World, Below w3.heap.size w3 u → Calls Tryd.prog 20 #[.pointer (some ⟨g, 0, none⟩), .int .i64 ((fn : Int) + (k : Int))] u fun e w' => e = .returned (.tuple #[.string ⟨(x.V.getD (fn + k) []).toArray⟩, .int .i64 0]) ∧ Below u.heap.size u w') := fun u hu => by
                      obtain ⟨tv, h1, _⟩ := HBB.out.later hu
                      refine (os_read h1 HOK.out _).mono fun e w' hr => ?_
                      unfold RdRes Dr.read at hr
                      rw [if_neg (by rw [HD.out]; omega), show ((fn : Int) + (k : Int)).toNat = fn + k by omega] at hr
                      exact hr
                    obtain ⟨y, hy⟩ : ∃ y, y = x.V.getD (fn + k) [] := ⟨_, rfl⟩
                    rw [← hy] at KR
                    have HY : Hid ((seg x.V fn (k + 1)).map sv = (seg x.V fn k).map sv ++ [sv y]) := by
                      show _ = _
                      rw [seg_snoc (by rw [HV.out, HD.out]; omega), List.map_append, hy, List.getD_eq_getElem?_getD, List.getElem?_eq_getElem (by rw [HV.out, HD.out]; omega)]
                      rfl
                    have hs4 := HB4.out.size
                    clear hy
                    go_wp2_with fail
                    refine (KR.out _ HB4.out).mono ?_
                    rintro e w5 ⟨rfl, hb⟩
                    have HO5 := Lib.hid (own_later HO.out hb)
                    have HB5 : Hid (Below w3.heap.size w3 w5) := HB4.out.trans (hb.mono hs4)
                    have hs5 := HB5.out.size
                    clear hb
                    go_wp2_with (at_builtin; refine wpList_append_own_at _ rfl _ _ 32 rfl w3.heap.size TStr i0 (.string ⟨#[]⟩) 1 16 Tryd.underlying32 hi hz0 hz1 hz2 rfl (by decide) _ _ _ rfl (HO5.out.alloc _) ⟨w5.heap.size, 0, none⟩ 1 1 [sv y] rfl rfl (one_new' _ _ _) (by simp [Value.oneCell', sv]) (by unfold maxLen; omega) (by omega) (by simp; omega) ?_)
                    intro v' w6 hown hgrow hnil hat
                    obtain ⟨a', c', rfl⟩ := own_slice hown
                    have HO6 := Lib.hid hown
                    have HB6 : Hid (Below w3.heap.size w3 w6) := (HB5.out.alloc hs5 _).grown hgrow (by simp; omega) (fun j hj => (HO5.out.lt j hj).1)
                    clear hown hgrow hnil hat
                    go_wp2_with fail
                    go_roundg (nn - (k + 1))
                    case measure => omega
                    case rel => exact ⟨k + 1, by omega, by simp, by rw [HY.out]; exact HO6.out, HB6, by omega⟩
                  · obtain rfl : k = nn := by omega
                    obtain ⟨aq, cq, rfl⟩ := own_slice HO.out
                    have hsl : (seg x.V fn k).length = k := seg_len (by rw [HV.out, HD.out]; exact hfn)
                    have hVF : x.V.length = x.D.length := HV.out
                    have hzl := top_le (L := seg x.V fn k) (m := Sf.top (seg x.V fn k)) fun z hz => top_mem hz
                    have hst := HS.out.r.fine
                    have hFIT : Fit x ⟨fn, k, s, Sf.top (seg x.V fn k), false⟩ := by
                      have h1 := hst.le
                      have h2 := hst.tl
                      exact ⟨HOK.out, by have := HP16.out; omega, hn1, by show k ≤ _; omega, by show fn + k ≤ _; rw [HD.out]; exact hfn, by show s.T.length ≤ _; omega, by show s.e ≤ k; omega⟩
                    have KIS : Hid (Calls Tryd.prog 18 #[.pointer (some ⟨r, 0, none⟩), .pointer (some ⟨g, 0, none⟩), .int .i64 (fn : Int), .slice aq k cq] wr fun e w' => e = .returned (.bool true) ∧ Below wr.heap.size wr w') :=
                      is_law _ r g x ⟨fn, k, s, Sf.top (seg x.V fn k), false⟩ wr (HBB.out.later HB4.out) hFIT w3.heap.size (.slice aq k cq) (seg x.V fn k) (by unfold Ow; rw [hsl]; exact HO.out) ⟨rfl, HS.out, rfl⟩ (by show k ≤ _; omega)
                    have HB7 : Hid (Below w.heap.size w wr) := HB3.out.trans (HB4.out.mono HB3.out.size)
                    clear hsl hVF hzl hst hFIT hkx hlk hk
                    go_wp2_with fail
                    refine KIS.out.mono ?_
                    rintro e w8 ⟨rfl, hb⟩
                    have HB8 : Hid (Below w.heap.size w w8) := HB7.out.trans (hb.mono HB7.out.size)
                    clear hb
                    go_wp2_with fail
                    refine (KH.out _ HB8.out).mono ?_
                    rintro e w9 ⟨rfl, hb⟩
                    have HB9 := Lib.hid hb
                    clear hb
                    go_wp2_with fail
                    go_ret
                    exact ⟨rfl, HB9.out⟩
    · obtain rfl : i = L.length := by omega
      clear hkx hlt hiL
      have HP16 : Hid (x.P.length ≤ 16) := Nat.le_trans TT.out.P (by omega)
      have KOS : Hid (Dv.Os (fun j => w.heap.size ≤ j) wr g x) := TT.out.os
      have HOK := Lib.hid TT.out.ok
      have hD := TT.out.D
      have hVl : x.V.length = x.D.length := Dr.vlen x
      have HD := Lib.hid hD
      have HV := Lib.hid hVl
      have KOUT : Hid (f < 0 ∨ n < 1 ∨ 16 < f ∨ 16 - f < n → Calls Tryd.prog 7 #[.pointer (some ⟨g, 0, none⟩), .int .i64 f, .int .i64 n] wr fun e w' => e = .returned (.tuple #[.pointer none, .int .i64 2]) ∧ wr = w') := fun h =>
        open_out KOS.out HOK.out f n f0 f1 n0 n1 (by unfold Dr.n; rw [HD.out]; omega)
      have KH : Hid (∀ u : World, Below w.heap.size w u → Calls Tryd.prog 9 #[] u fun e w' => e = .returned (.bool true) ∧ Below w.heap.size w w') := fun u hu =>
        (head_c u).mono fun e w' h => ⟨h.1, hu.trans (h.2.mono hu.size)⟩
      clear hD hVl TT
      by_cases a : f < 0
      · have KO2 := Lib.hid (KOUT.out (.inl a))
        clear KOUT
        go_wp2_with fail
        refine KO2.out.mono ?_
        rintro e w' ⟨rfl, rfl⟩
        go_wp2_with fail
        refine (KH.out _ HB.out).mono ?_
        rintro e w3 ⟨rfl, hb⟩
        have HB3 := Lib.hid hb
        clear hb
        go_wp2_with fail
        go_ret
        exact ⟨rfl, HB3.out⟩
      · by_cases b : n < 1
        · have KO2 := Lib.hid (KOUT.out (.inr (.inl b)))
          clear KOUT
          go_wp2_with fail
          refine KO2.out.mono ?_
          rintro e w' ⟨rfl, rfl⟩
          go_wp2_with fail
          refine (KH.out _ HB.out).mono ?_
          rintro e w3 ⟨rfl, hb⟩
          have HB3 := Lib.hid hb
          clear hb
          go_wp2_with fail
          go_ret
          exact ⟨rfl, HB3.out⟩
        · by_cases c : 16 < f
          · have KO2 := Lib.hid (KOUT.out (.inr (.inr (.inl c))))
            clear KOUT
            go_wp2_with fail
            refine KO2.out.mono ?_
            rintro e w' ⟨rfl, rfl⟩
            go_wp2_with fail
            refine (KH.out _ HB.out).mono ?_
            rintro e w3 ⟨rfl, hb⟩
            have HB3 := Lib.hid hb
            clear hb
            go_wp2_with fail
            go_ret
            exact ⟨rfl, HB3.out⟩
          · by_cases d : 16 - f < n
            · have KO2 := Lib.hid (KOUT.out (.inr (.inr (.inr d))))
              clear KOUT
              go_wp2_with fail
              refine KO2.out.mono ?_
              rintro e w' ⟨rfl, rfl⟩
              go_wp2_with fail
              refine (KH.out _ HB.out).mono ?_
              rintro e w3 ⟨rfl, hb⟩
              have HB3 := Lib.hid hb
              clear hb
              go_wp2_with fail
              go_ret
              exact ⟨rfl, HB3.out⟩
            · have KO2 : Hid (∃ (fn nn : Nat), f = (fn : Int) ∧ n = (nn : Int) ∧ 1 ≤ nn ∧ fn + nn ≤ 16) := ⟨f.toNat, n.toNat, by omega, by omega, by omega, by omega⟩
              obtain ⟨fn, nn, rfl, rfl, hn1, hfn⟩ := KO2.out
              have KO3 : Hid (Calls Tryd.prog 7 #[.pointer (some ⟨g, 0, none⟩), .int .i64 (fn : Int), .int .i64 (nn : Int)] wr (OpRes x fn nn g wr)) := open_c KOS.out HOK.out fn nn hn1 (by omega) (by rw [HD.out]; omega)
              clear KO2 KOUT f0 f1 n0 n1 a b c d
              have a : ¬ (fn : Int) < 0 := by omega
              have b : ¬ (nn : Int) < 1 := by omega
              have c : ¬ (16 : Int) < (fn : Int) := by omega
              have d : ¬ (16 : Int) - (fn : Int) < (nn : Int) := by omega
              go_wp2_with fail
              refine KO3.out.mono ?_
              intro e w3 hr
              obtain ⟨r, s, rfl, hs, hB2, hb⟩ := op_both KOS.out hr
              have HS := Lib.hid hs
              have HBB : Hid (Both (fun j => w.heap.size ≤ j ∧ j < w3.heap.size) w3 r g x ⟨fn, nn, s, Sf.top (seg x.V fn nn), false⟩) := (hB2.mono fun j hj => hj.elim id fun h => Nat.le_trans HB.out.size h).lt
              have HB3 : Hid (Below w.heap.size w w3) := HB.out.trans (hb.mono HB.out.size)
              clear hs hB2 hb hr
              go_wp2_with fail
              obtain ⟨wo, hwo⟩ : ∃ wo, wo = w3 := ⟨_, rfl⟩
              have T0 : Hid (Below w3.heap.size w3 w3) := Below.refl _ _
              go_loopg [12, 13] nn (fun kx s12 s13 wr => ∃ k : Nat, k ≤ nn ∧ s13 = .int .i64 (k : Int) ∧ Hid (wr.ownsRow w3.heap.size TStr 1 s12 k ((seg x.V fn k).map sv)) ∧ Hid (Below w3.heap.size w3 wr) ∧ nn ≤ k + kx)
              case atStart => exact ⟨0, Nat.zero_le _, rfl, World.ownsRow_nil _ _ _ _, T0, by omega⟩
              case round =>
                obtain ⟨k, hk, rfl, HO, HB4, hkx⟩ := hrel
                clear hwo T0
                by_cases hlk : k < nn
                · have KR : Hid (∀ u : World, Below w3.heap.size w3 u → Calls Tryd.prog 20 #[.pointer (some ⟨g, 0, none⟩), .int .i64 ((fn : Int) + (k : Int))] u fun e w' => e = .returned (.tuple #[.string ⟨(x.V.getD (fn + k) []).toArray⟩, .int .i64 0]) ∧ Below u.heap.size u w') := fun u hu => by
                    obtain ⟨tv, h1, _⟩ := HBB.out.later hu
                    refine (os_read h1 HOK.out _).mono fun e w' hr => ?_
                    unfold RdRes Dr.read at hr
                    rw [if_neg (by rw [HD.out]; omega), show ((fn : Int) + (k : Int)).toNat = fn + k by omega] at hr
                    exact hr
                  obtain ⟨y, hy⟩ : ∃ y, y = x.V.getD (fn + k) [] := ⟨_, rfl⟩
                  rw [← hy] at KR
                  have HY : Hid ((seg x.V fn (k + 1)).map sv = (seg x.V fn k).map sv ++ [sv y]) := by
                    show _ = _
                    rw [seg_snoc (by rw [HV.out, HD.out]; omega), List.map_append, hy, List.getD_eq_getElem?_getD, List.getElem?_eq_getElem (by rw [HV.out, HD.out]; omega)]
                    rfl
                  have hs4 := HB4.out.size
                  clear hy
                  go_wp2_with fail
                  refine (KR.out _ HB4.out).mono ?_
                  rintro e w5 ⟨rfl, hb⟩
                  have HO5 := Lib.hid (own_later HO.out hb)
                  have HB5 : Hid (Below w3.heap.size w3 w5) := HB4.out.trans (hb.mono hs4)
                  have hs5 := HB5.out.size
                  clear hb
                  go_wp2_with (at_builtin; refine wpList_append_own_at _ rfl _ _ 32 rfl w3.heap.size TStr i0 (.string ⟨#[]⟩) 1 16 Tryd.underlying32 hi hz0 hz1 hz2 rfl (by decide) _ _ _ rfl (HO5.out.alloc _) ⟨w5.heap.size, 0, none⟩ 1 1 [sv y] rfl rfl (one_new' _ _ _) (by simp [Value.oneCell', sv]) (by unfold maxLen; omega) (by omega) (by simp; omega) ?_)
                  intro v' w6 hown hgrow hnil hat
                  obtain ⟨a', c', rfl⟩ := own_slice hown
                  have HO6 := Lib.hid hown
                  have HB6 : Hid (Below w3.heap.size w3 w6) := (HB5.out.alloc hs5 _).grown hgrow (by simp; omega) (fun j hj => (HO5.out.lt j hj).1)
                  clear hown hgrow hnil hat
                  go_wp2_with fail
                  go_roundg (nn - (k + 1))
                  case measure => omega
                  case rel => exact ⟨k + 1, by omega, by simp, by rw [HY.out]; exact HO6.out, HB6, by omega⟩
                · obtain rfl : k = nn := by omega
                  obtain ⟨aq, cq, rfl⟩ := own_slice HO.out
                  have hsl : (seg x.V fn k).length = k := seg_len (by rw [HV.out, HD.out]; exact hfn)
                  have hVF : x.V.length = x.D.length := HV.out
                  have hzl := top_le (L := seg x.V fn k) (m := Sf.top (seg x.V fn k)) fun z hz => top_mem hz
                  have hst := HS.out.r.fine
                  have hFIT : Fit x ⟨fn, k, s, Sf.top (seg x.V fn k), false⟩ := by
                    have h1 := hst.le
                    have h2 := hst.tl
                    exact ⟨HOK.out, by have := HP16.out; omega, hn1, by show k ≤ _; omega, by show fn + k ≤ _; rw [HD.out]; exact hfn, by show s.T.length ≤ _; omega, by show s.e ≤ k; omega⟩
                  have KIS : Hid (Calls Tryd.prog 18 #[.pointer (some ⟨r, 0, none⟩), .pointer (some ⟨g, 0, none⟩), .int .i64 (fn : Int), .slice aq k cq] wr fun e w' => e = .returned (.bool true) ∧ Below wr.heap.size wr w') :=
                    is_law _ r g x ⟨fn, k, s, Sf.top (seg x.V fn k), false⟩ wr (HBB.out.later HB4.out) hFIT w3.heap.size (.slice aq k cq) (seg x.V fn k) (by unfold Ow; rw [hsl]; exact HO.out) ⟨rfl, HS.out, rfl⟩ (by show k ≤ _; omega)
                  have HB7 : Hid (Below w.heap.size w wr) := HB3.out.trans (HB4.out.mono HB3.out.size)
                  clear hsl hVF hzl hst hFIT hkx hlk hk
                  go_wp2_with fail
                  refine KIS.out.mono ?_
                  rintro e w8 ⟨rfl, hb⟩
                  have HB8 : Hid (Below w.heap.size w w8) := HB7.out.trans (hb.mono HB7.out.size)
                  clear hb
                  go_wp2_with fail
                  refine (KH.out _ HB8.out).mono ?_
                  rintro e w9 ⟨rfl, hb⟩
                  have HB9 := Lib.hid hb
                  clear hb
                  go_wp2_with fail
                  go_ret
                  exact ⟨rfl, HB9.out⟩
end Go.Proofs.YtnfjgmdpokpbbaaDoor.Rk
