/- Package drive: the law of fuses. -/
import Derived.Test.YthoafaaemikiaaaDvOwn
import Derived.Lib.SmallJoins
import Derived.OpenShut
import Derived.Deep.Slices
import Derived.Deep.Fields
import Derived.ChangeSame
namespace Go.Proofs.Ythoafaaemikiaaa.Dv
open Go Go.RowKit Rf
/-- A list of bools in memory. -/
def Bls (w : World) (a : Option Addr) (L : List Bool) : Prop := ∀ j (h : j < L.length), ∃ b off, a = some ⟨b, off, none⟩ ∧ b < w.heap.size ∧ w.cell? ⟨b, off + j, none⟩ = some (.bool L[j])
theorem Bls.later {w w' : World} {a : Option Addr} {L : List Bool} (h : Bls w a L) (hb : Below w.heap.size w w') : Bls w' a L := fun j hj => by
  obtain ⟨b, off, ha, hlt, c0⟩ := h j hj
  exact ⟨b, off, ha, Nat.lt_of_lt_of_le hlt hb.size, by rw [hb.cell (by simpa using hlt)]; exact c0⟩
/-- A drive whose fuse was of k, behind j calls. -/
structure Fzi (x : Dr) (k j : Nat) : Prop where
  ok : x.Ok
  n : x.D.length = 8
  p : x.P.length ≤ j
  f : x.F = some (k - j)
theorem fz_burn {x : Dr} {k j : Nat} (h : Fzi x k j) : burn x.F = if j < k then some (some (k - (j + 1))) else none := by
  rw [h.f]
  split
  · rw [show k - j = (k - (j + 1)) + 1 by omega]; rfl
  · rw [show k - j = 0 by omega]; rfl
theorem fz_skip {x : Dr} {k j : Nat} (h : Fzi x k j) (hk : ¬ j < k) : Fzi x k (j + 1) := ⟨h.ok, h.n, by have := h.p; omega, by rw [h.f, show k - j = k - (j + 1) by omega]⟩
theorem fz_sync {x : Dr} {k j : Nat} (h : Fzi x k j) : ∃ y, x.sync = (y, if j < k then 0 else 30) ∧ Fzi y k (j + 1) := by
  have hb := fz_burn h
  have ho := h.ok.sync
  by_cases hk : j < k
  · rw [if_pos hk] at hb ⊢
    have e : x.sync = (⟨x.V, [], some (k - (j + 1))⟩, 0) := by unfold Dr.sync; rw [hb]
    rw [e] at ho
    exact ⟨_, e, ho, by show x.V.length = 8; rw [Dr.vlen]; exact h.n, Nat.zero_le _, rfl⟩
  · rw [if_neg hk] at hb ⊢
    exact ⟨x, by unfold Dr.sync; rw [hb], fz_skip h hk⟩
theorem fz_write {x : Dr} {k j : Nat} (h : Fzi x k j) (n : Nat) (hn : n < 8) : ∃ y, x.write (n : Int) [120] = (y, if j < k then 0 else 30) ∧ Fzi y k (j + 1) := by
  have hb := fz_burn h
  have ho := h.ok.write (n : Int) [120]
  have h8 := h.n
  have e0 : ∀ z, (match burn x.F with | none => (x, (30 : Int)) | some F => (⟨x.D, x.P ++ [((n : Int).toNat, pad [120])], F⟩, 0)) = z → x.write (n : Int) [120] = z := fun z hz => by
    unfold Dr.write
    rw [if_neg (by omega), if_neg (by decide)]
    exact hz
  by_cases hk : j < k
  · rw [if_pos hk] at hb ⊢
    have e := e0 (⟨x.D, x.P ++ [((n : Int).toNat, pad [120])], some (k - (j + 1))⟩, 0) (by rw [hb])
    rw [e] at ho
    exact ⟨_, e, ho, h.n, by have := h.p; simp; omega, rfl⟩
  · rw [if_neg hk] at hb ⊢
    exact ⟨x, e0 _ (by rw [hb]), fz_skip h hk⟩
/-- Behind a failure all is done again. -/
theorem fz_end {x : Dr} {k j : Nat} (h : Fzi x k j) : ∃ y z, (x.crash c0).write 0 [121] = (y, 0) ∧ y.sync = (z, 0) ∧ y.Ok ∧ y.P.length ≤ 1 := by
  have ho := (h.ok.crash c0).write 0 [121]
  have hl : (x.crash c0).D.length = 8 := by show (crashTo _ _ _ _).length = 8; rw [crashTo_len]; exact h.n
  have e : (x.crash c0).write 0 [121] = (⟨(x.crash c0).D, [(0, pad [121])], none⟩, 0) := by
    unfold Dr.write
    rw [if_neg (by rw [hl]; decide), if_neg (by decide)]
    rfl
  rw [e] at ho
  exact ⟨_, _, e, rfl, ho, by simp⟩
set_option maxRecDepth 100000 in
set_option maxHeartbeats 8000000 in
theorem fuse_law (n : Nat) (a : Option Addr) (cap : Nat) (L : List Bool) (w : World) (hn : n ≤ 255) (hL : Bls w a L) (_hl : L.length ≤ maxLen) : Calls Try.prog 5 #[.int .u8 (n : Int), .slice a L.length cap] w fun e w' => e = .returned (.bool true) ∧ Below w.heap.size w w' := by
  unfold maxLen at _hl
  have KN := Lib.hid (show ∀ u, Calls Try.prog 6 #[.int .i64 8] u (NewOs e0 u) from fun u => os_new 8 (by decide) (by decide) u)
  have HL := Lib.hid hL
  clear hL
  obtain ⟨k, hk⟩ : ∃ k : Nat, (n : Int) % 40 = (k : Int) := ⟨n % 40, by omega⟩
  have hk40 : k < 40 := by omega
  go_enter Try.func5, Try.ntmps5
  go_wp2_with fail
  refine (KN.out _).mono ?_
  rintro e w1 ⟨g, rfl, h1, b1⟩
  have D1 := Lib.hid h1
  have B1 := Lib.hid b1
  clear h1 b1
  go_upto_region 5 with (fail)
  go_wp2_with fail
  refine (os_fuse D1.out ok0 (k : Int)).mono ?_
  rintro e w2 ⟨rfl, h2⟩
  have D2 := Lib.hid (h2.1.mono (T := fun j => w.heap.size ≤ j) fun j hj => hj.elim id fun h => Nat.le_trans B1.out.size h)
  have B2 := Lib.hid (B1.out.trans (h2.2.below (fun _ h => h) B1.out.size))
  have F2 := Lib.hid (show Fzi (e0.fuse (k : Int)) k 0 from ⟨ok0.fuse _ (by omega), by show (List.replicate 8 zs).length = 8; simp, Nat.zero_le _, by show (if (k : Int) < 0 then none else some (k : Int).toNat) = _; rw [if_neg (by omega)]; simp⟩)
  generalize e0.fuse (k : Int) = x0 at *
  clear h2 D1 B1 hk
  go_wp2_with fail
  go_loopw [8] (fun i wr => ∃ (j : Nat) (x : Dr), i = .int .i64 (j : Int) ∧ j ≤ L.length ∧ j ≤ 60 ∧ Fzi x k j ∧ Os (fun j => w.heap.size ≤ j) wr g x ∧ Below w.heap.size w wr) (fun i _ => L.length - (intOf i).toNat)
  case atStart => exact ⟨0, x0, rfl, Nat.zero_le _, Nat.zero_le _, F2.out, D2.out, B2.out⟩
  case round =>
    obtain ⟨j, x, rfl, hj, hj60, hf, ho, hb⟩ := hrel
    have HF := Lib.hid hf
    have HO := Lib.hid ho
    have HB := Lib.hid hb
    clear hf ho hb D2 B2 F2
    go_upto_region 7 with (fail)
    go_cut [29] (fun v wx => ∃ b : Bool, v = .bool b ∧ (b = true ↔ j < L.length ∧ j < 60) ∧ wr = wx)
    case first =>
      by_cases h1 : j < L.length
      · by_cases h2 : j < 60
        · go_wp2_with fail
          go_meet
          exact ⟨true, by simp; omega, by simp [h1, h2], rfl⟩
        · go_wp2_with fail
          go_meet
          exact ⟨false, by simp; omega, by simp [h1, h2], rfl⟩
      · go_wp2_with fail
        go_meet
        exact ⟨false, rfl, by simp [h1], rfl⟩
    obtain ⟨bb, rfl, hbb, rfl⟩ := hcut
    cases bb with
    | true =>
      obtain ⟨hlt, h60⟩ := hbb.1 rfl
      clear hbb
      obtain ⟨tb, htb⟩ : ∃ t, L[j] = t := ⟨_, rfl⟩
      obtain ⟨ab, ao, rfl, hab, t0⟩ := (HL.out.later HB.out) j hlt
      rw [htb] at t0
      have hju : (j : Int) < (L.length : Int) := by omega
      have hj0 : (0 : Int) ≤ (j : Int) := by omega
      clear htb
      cases tb with
      | true =>
        obtain ⟨y, hy, hfy⟩ := fz_sync HF.out
        have HY := Lib.hid hy
        have HFY := Lib.hid hfy
        clear hy hfy
        by_cases hjk : j < k
        all_goals
          have hjk' := HY.out
          first | rw [if_pos hjk] at hjk' | rw [if_neg hjk] at hjk'
          have KS := Lib.hid (os_sync HO.out HF.out.ok (by have := HF.out.p; omega) _ hjk')
          clear hjk'
          go_wp2_with fail
          refine KS.out.mono ?_
          rintro e w5 ⟨rfl, h5⟩
          have D5 := Lib.hid (h5.1.mono (T := fun j => w.heap.size ≤ j) fun j hj => hj.elim id fun h => Nat.le_trans HB.out.size h)
          have B5 := Lib.hid (HB.out.trans (h5.2.below (fun _ h => h) HB.out.size))
          clear h5 KS
          go_wp2_with fail
          go_roundw
          case rel => exact ⟨j + 1, y, by go_num, by omega, by omega, HFY.out, D5.out, B5.out⟩
          case measure => simp [intOf]; omega
      | false =>
        obtain ⟨m, hm⟩ : ∃ m : Nat, (j : Int) % 8 = (m : Int) := ⟨j % 8, by omega⟩
        obtain ⟨y, hy, hfy⟩ := fz_write HF.out m (by omega)
        have HY := Lib.hid hy
        have HFY := Lib.hid hfy
        clear hy hfy
        by_cases hjk : j < k
        all_goals
          have hjk' := HY.out
          first | rw [if_pos hjk] at hjk' | rw [if_neg hjk] at hjk'
          have KS := Lib.hid (os_write HO.out HF.out.ok (by have := HF.out.p; omega) (m : Int) ⟨#[120]⟩ (by decide) _ hjk')
          clear hjk'
          go_wp2_with fail
          refine KS.out.mono ?_
          rintro e w5 ⟨rfl, h5⟩
          have D5 := Lib.hid (h5.1.mono (T := fun j => w.heap.size ≤ j) fun j hj => hj.elim id fun h => Nat.le_trans HB.out.size h)
          have B5 := Lib.hid (HB.out.trans (h5.2.below (fun _ h => h) HB.out.size))
          clear h5 KS hm
          go_wp2_with fail
          go_roundw
          case rel => exact ⟨j + 1, y, by go_num, by omega, by omega, HFY.out, D5.out, B5.out⟩
          case measure => simp [intOf]; omega
    | false =>
      clear hbb
      obtain ⟨y, z, hw, hs, hok, hp⟩ := fz_end HF.out
      have HW := Lib.hid hw
      have HS := Lib.hid hs
      have HOK := Lib.hid hok
      have HP := Lib.hid hp
      clear hw hs hok hp
      go_wp2_with fail
      refine (os_crash HO.out HF.out.ok (by have := HF.out.p; omega) c0 fit0).mono ?_
      rintro e w5 ⟨rfl, h5⟩
      have D5 := Lib.hid (h5.1.mono (T := fun j => w.heap.size ≤ j) fun j hj => hj.elim id fun h => Nat.le_trans HB.out.size h)
      have B5 := Lib.hid (HB.out.trans (h5.2.below (fun _ h => h) HB.out.size))
      clear h5
      go_wp2_with fail
      refine (os_write D5.out (HF.out.ok.crash c0) (Nat.zero_le _) 0 ⟨#[121]⟩ (by decide) 0 HW.out).mono ?_
      rintro e w6 ⟨rfl, h6⟩
      have D6 := Lib.hid (h6.1.mono (T := fun j => w.heap.size ≤ j) fun j hj => hj.elim id fun h => Nat.le_trans B5.out.size h)
      have B6 := Lib.hid (B5.out.trans (h6.2.below (fun _ h => h) B5.out.size))
      clear h6 D5 B5
      go_wp2_with fail
      refine (os_sync D6.out HOK.out (by have := HP.out; omega) 0 HS.out).mono ?_
      rintro e w7 ⟨rfl, h7⟩
      have B7 := Lib.hid (B6.out.trans (h7.2.below (fun _ h => h) B6.out.size))
      clear h7 D6 B6
      go_wp2_with fail
      refine (head_c _).mono ?_
      rintro e w8 ⟨rfl, b8⟩
      go_wp2_with fail
      go_ret
      exact ⟨rfl, B7.out.trans (b8.mono B7.out.size)⟩
section
open Go.ChangeShapes Go.WideShapes Go.ChangeAt Go.Joins Go.WideMaps Go.WideElems Go.Deep
variable {H : Type} {enc : TypeId × Value → H} {P : Program} {w : World} {base : Nat} {held : Bool}
theorem open_bls {t e : TypeId} {fuel : Nat} {v : Value} {y : DataW H × List MemPlace} (ht : P.underlying t = some (.slice e)) (he : P.underlying e = some .bool) (hC : P.cellsOf e = 1)
    (h : DataW.trod enc P w base (fun _ => true) held fuel t [v] = some y) :
    ∃ a cap L, v = .slice a (List.length L) cap ∧ Bls w a L ∧ L.length ≤ maxLen ∧ ∀ x ∈ L, (fun _ : Bool => True) x := by
  rcases open_slice ht h with ⟨hcs, _⟩ | ⟨a, len, cap, m, n, D, Pl, hcs, _, hl, hm, hmm, _, hx⟩
  · simp at hcs
    exact ⟨none, 0, [], hcs, fun j hj => by simp at hj, by simp, by simp⟩
  · simp at hcs
    have hlm : len ≤ m := by rw [hmm]; split <;> omega
    rw [hC] at hx
    have hall : ∀ i, i < len → ∃ x : Bool, w.cell? (a.add (i * 1)) = some (.bool x) := by
      intro i hi
      obtain ⟨cs', h1, h2⟩ := hx i (by omega)
      obtain ⟨_, hlen, hat⟩ := World.cells?_some h1
      match cs', hlen with
      | [c0], _ =>
        obtain ⟨x0, e0, _⟩ := DataW.trod_bool he h2
        simp at e0
        subst e0
        exact ⟨x0, by simpa [Addr.add] using hat 0 (by omega)⟩
    obtain ⟨V, hV⟩ := choose_lt (α := Bool) (p := fun i x => w.cell? (a.add (i * 1)) = some (.bool x)) hall
    refine ⟨some a, cap, (List.range len).map V, by simpa using hcs, ?_, by simp; omega, fun _ _ => trivial⟩
    intro j hj
    have hj' : j < len := by simpa using hj
    have c0 := hV j hj'
    have c00 := hV 0 (by omega)
    obtain ⟨ab, ao, spot⟩ := a
    have hspot : spot = none := by simpa [Addr.add] using World.cell?_spot c00
    subst hspot
    rw [Go.WideShapes.add_plain, Nat.mul_one] at c0
    exact ⟨ab, ao, rfl, World.block_lt_of_cell? w ⟨ab, ao + j, none⟩ c0, by rw [c0]; simp⟩
end
end Go.Proofs.Ythoafaaemikiaaa.Dv
