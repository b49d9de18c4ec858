/- Package journal: the document's Nums. -/
import Derived.Test.YtnblilonjpfdnaaJnGetM
import Derived.Test.YtnblilonjpfdnaaJnRef3
namespace Go.Proofs.Ytnblilonjpfdnaa.Jn
open Go Go.RowKit Ck
abbrev TU : TypeId := 22
abbrev TUs : TypeId := 118
theorem info_u : ∃ i z, Try.prog.info? TU = some i ∧ i.zero = some z ∧ i.size = 1 ∧ i.bytes = 8 ∧ z.cells.size = 1 := info_of (by kernel_rfl) (by kernel_rfl)
def takes : Nat → List UInt8 → Option (List Nat × List UInt8)
  | 0, r => some ([], r)
  | m + 1, r => match Ta.take 0 r with
    | none => none
    | some (n, t) => (takes m t).map fun x => (n :: x.1, x.2)
theorem bs_list' (r : List UInt8) : (bs r).data.toList = r := by unfold bs; simp
def uv (n : Nat) : Value := .int .u64 (n : Int)
def NumsR (o : Option (List Nat × List UInt8)) (w : World) (e : Ending) (w' : World) : Prop := Below w.heap.size w w' ∧ match o with
  | none => e = .returned (.tuple #[.slice none 0 0, .string (bs []), .bool false])
  | some (ns, t) => ∃ v, e = .returned (.tuple #[v, .string (bs t), .bool true]) ∧ w'.ownsRow w.heap.size TU 1 v ns.length (ns.map uv)
theorem takes_more {o : Option (List Nat × List UInt8)} {i n m : Nat} {ns : List Nat} {r t : List UInt8} (hm : m = i + 1) (h : o = (takes m r).map fun x => (ns ++ x.1, x.2)) (ht : Ta.take 0 r = some (n, t)) : o = (takes i t).map fun x => ((ns ++ [n]) ++ x.1, x.2) := by
  subst hm
  rw [h, takes, ht]
  simp only
  rw [Option.map_map]
  congr 1
  funext x
  simp
theorem takes_stop {o : Option (List Nat × List UInt8)} {i m : Nat} {ns : List Nat} {r : List UInt8} (hm : m = i + 1) (h : o = (takes m r).map fun x => (ns ++ x.1, x.2)) (ht : Ta.take 0 r = none) : o = none := by
  subst hm
  rw [h, takes, ht]
  rfl
section
set_option maxRecDepth 100000
set_option maxHeartbeats 3200000
theorem nums_c (many : Nat) (hm : many ≤ 10) (r : List UInt8) (w : World) (hr : r.length ≤ 1000000) : Calls Try.prog 70 #[.string (bs r), .int .i64 (many : Int)] w (NumsR (takes many r) w) := by
  have KT : Hid (∀ (t : List UInt8) (u : World), t.length ≤ 1000000 → Calls Try.prog 87 #[.string (bs t)] u (Tal.NumRes (Ta.take 0 t) u)) := fun t u ht => by
    have := Tal.refTakeNum_c (bs t) u (by rw [bs_size]; omega)
    rw [bs_list'] at this
    exact this
  obtain ⟨o, ho⟩ : ∃ o, o = takes many r := ⟨_, rfl⟩
  rw [← ho]
  have HO0 : Hid (o = (takes many r).map fun x => ([] ++ x.1, x.2)) := by show _ = _; rw [ho]; cases takes many r <;> rfl
  have HR : Hid (r.length ≤ 1000000) := hr
  have HM : Hid (many ≤ 10) := hm
  obtain ⟨i1, z1, hk0, hk1, hk2, hk3, hk4⟩ := info_u
  clear ho hr hm
  go_enter Try.func70, Try.ntmps70
  go_upto_region 3 with (fail)
  go_loopg [0, 7, 8] many (fun kx s0 s7 s8 wr => ∃ (ns : List Nat) (v : Value) (t : List UInt8), s8 = .int .i64 (ns.length : Int) ∧ s7 = v ∧ s0 = .string (bs t) ∧ ns.length ≤ many ∧ Hid (wr.ownsRow w.heap.size TU 1 v ns.length (ns.map uv)) ∧ Hid (Below w.heap.size w wr) ∧ Hid (t.length ≤ 1000000) ∧ Hid (o = (takes (many - ns.length) t).map fun x => (ns ++ x.1, x.2)) ∧ many ≤ ns.length + kx)
  case atStart => exact ⟨[], .slice none 0 0, r, rfl, rfl, rfl, Nat.zero_le _, World.ownsRow_nil _ _ _ _, Below.refl _ _, HR.out, HO0.out, by omega⟩
  case round =>
    obtain ⟨ns, v, t, rfl, rfl, rfl, hn9, HO, HB, HL, HT, hkx⟩ := hrel
    obtain ⟨va, vc, rfl⟩ := own_any HO.out
    by_cases hlt : ns.length < many
    · have j1 : (ns.length : Int) < (many : Int) := by omega
      have j2 : many ≤ 10 := HM.out
      have K := Lib.hid (KT.out t wr HL.out)
      obtain ⟨q, hq⟩ : ∃ q, q = Ta.take 0 t := ⟨_, rfl⟩
      rw [← hq] at K
      have HQ : Hid (Ta.take 0 t = q) := hq.symm
      have HLT := Lib.hid hlt
      have HKX := Lib.hid hkx
      clear hq hlt hkx
      go_wp2_with fail
      refine K.out.mono ?_
      rintro _ w1 ⟨rfl, hb1⟩
      have HB1 : Hid (Below w.heap.size w w1) := HB.out.trans (hb1.mono HB.out.size)
      have HO1 := Lib.hid (own_later HO.out hb1)
      clear K hb1 HB HO
      cases q with
      | none =>
        have HN := Lib.hid (takes_stop (i := many - ns.length - 1) (by have := HLT.out; omega) HT.out HQ.out)
        go_wp2_with fail
        refine bodyPost_ret (v := .tuple #[.slice none 0 0, .string ⟨#[]⟩, .bool false]) (by simp [results, Try.results70, go_sem]) rfl ?_
        refine ⟨HB1.out, ?_⟩
        rw [HN.out]
        rfl
      | some x =>
        obtain ⟨n, t2⟩ := x
        have HT2 := Lib.hid (takes_more (i := many - (ns.length + 1)) (by have := HLT.out; omega) HT.out HQ.out)
        have HL2 : Hid (t2.length ≤ 1000000) := Nat.le_trans (Nat.le_of_lt (Ta.take_bound _ _ _ _ HQ.out).2) HL.out
        have h63 : ns.length + 1 ≤ maxLen := by have h1 := HLT.out; have h2 := HM.out; unfold maxLen; omega
        go_wp2_with (at_builtin; refine wpList_append_own_at _ rfl _ _ TUs rfl w.heap.size TU i1 z1 1 8 Try.underlying118 hk0 hk1 hk2 hk3 hk4 (by decide) _ _ _ rfl (HO1.out.alloc _) ⟨w1.heap.size, 0, none⟩ 1 1 [.int .u64 (n : Int)] rfl rfl (rw_news (Rw.new w1 [.int .u64 (n : Int)] TU)) (by simp [Value.oneCell']) h63 (by have h1 := HLT.out; have h2 := HM.out; omega) (by have := HB1.out.size; simp; omega) ?_)
        intro v7 W7 hown7 hg7 hnil7 hat7
        obtain ⟨Q, hQ⟩ : ∃ Q, Q = ns ++ [n] := ⟨_, rfl⟩
        have HO7 : Hid (W7.ownsRow w.heap.size TU 1 v7 Q.length (Q.map uv)) := by
          show World.ownsRow _ _ _ _ _ _ _
          rw [hQ, List.length_append, List.map_append]
          exact hown7
        have HB7 : Hid (Below w.heap.size w W7) := (HB1.out.trans (((Below.refl _ w1).alloc (Nat.le_refl _) _).mono HB1.out.size)).grown hg7 (Nat.le_trans HB1.out.size (by simp)) (fun j hj => (HO1.out.lt j hj).1)
        rw [← hQ] at HT2
        have HQL : Hid (Q.length = ns.length + 1) := by show _ = _; rw [hQ, List.length_append]; rfl
        clear hown7 hg7 hnil7 hat7 HB1 HO1 h63 hQ
        obtain ⟨va7, vc7, rfl⟩ := own_any HO7.out
        go_wp2_with fail
        have hlt := HLT.out
        have hkx := HKX.out
        have hql := HQL.out
        go_roundg (many - (ns.length + 1))
        case measure => omega
        case rel => exact ⟨Q, _, t2, by rw [hql]; simp, rfl, rfl, by omega, HO7, HB7, HL2, by rw [hql]; exact HT2, by omega⟩
    · have hnl : ns.length = many := by omega
      have j1 : ¬ (ns.length : Int) < (many : Int) := by omega
      have HN : Hid (o = some (ns, t)) := by
        show _ = _
        rw [HT.out, hnl, Nat.sub_self]
        simp [takes]
      clear hlt hkx hn9 hnl
      go_wp2_with fail
      refine bodyPost_ret (v := .tuple #[.slice va ns.length vc, .string (bs t), .bool true]) (by simp [results, Try.results70, go_sem]) rfl ?_
      refine ⟨HB.out, ?_⟩
      rw [HN.out]
      exact ⟨_, rfl, HO.out⟩
end
end Go.Proofs.Ytnblilonjpfdnaa.Jn
