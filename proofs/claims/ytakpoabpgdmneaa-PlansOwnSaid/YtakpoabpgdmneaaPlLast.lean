/- Package plans: a plan; last; the conditions of Check. -/
import Derived.Test.YtakpoabpgdmneaaPlAsc
namespace Go.Proofs.Ytakpoabpgdmneaa.Pl
open Go Go.RowKit Ck
abbrev TPlan : TypeId := 31
/-- A plan. -/
structure Pn where
  id : Int
  name : ByteArray
  every : Int
  ps : List Pr
  ret : Int
def Pn.cells (x : Pn) (a : Option Addr) (cap : Nat) : List Value := [.int .u64 x.id, .string x.name, .int .i64 x.every, .slice a x.ps.length cap, .int .i64 x.ret]
def Pn.val (x : Pn) (a : Option Addr) (cap : Nat) : Value := .agg #[.int .u64 x.id, .string x.name, .int .i64 x.every, .slice a x.ps.length cap, .int .i64 x.ret]
def Pn.last (x : Pn) : Pr := x.ps.getD (x.ps.length - 1) Pr.zero
set_option maxRecDepth 100000 in
theorem last_c (x : Pn) (a : Option Addr) (cap : Nat) (w : World) (h : Prs w a x.ps) (h0 : 0 < x.ps.length) (hl : x.ps.length ≤ 1000000) : Calls Try.prog 31 #[x.val a cap] w fun e w' => e = .returned x.last.val ∧ Below w.heap.size w w' := by
  obtain ⟨id, name, every, L, ret⟩ := x
  simp only at h h0 hl
  obtain ⟨n1, hn1⟩ : ∃ n1, n1 + 1 = L.length := ⟨L.length - 1, by omega⟩
  obtain ⟨y, hy⟩ : ∃ y, y = Pn.last ⟨id, name, every, L, ret⟩ := ⟨_, rfl⟩
  rw [← hy]
  have hye : y = L[n1]'(by omega) := by
    rw [hy]
    unfold Pn.last
    simp only
    rw [show L.length - 1 = n1 by omega, List.getD_eq_getElem?_getD, List.getElem?_eq_getElem (by omega)]
    rfl
  have B0 : Hid (Below w.heap.size w ((w.alloc (.cells #[.int .u64 id, .string name, .int .i64 every, .slice a L.length cap, .int .i64 ret] TPlan)).alloc (.cells #[.int .i64 0, .int .i64 0] TPrice))) := ((Below.refl _ w).alloc (Nat.le_refl _) _).alloc (by simp) _
  have R0 : Hid (Rw ((w.alloc (.cells #[.int .u64 id, .string name, .int .i64 every, .slice a L.length cap, .int .i64 ret] TPlan)).alloc (.cells #[.int .i64 0, .int .i64 0] TPrice)) w.heap.size TPlan [.int .u64 id, .string name, .int .i64 every, .slice a L.length cap, .int .i64 ret]) := (Rw.new w [.int .u64 id, .string name, .int .i64 every, .slice a L.length cap, .int .i64 ret] TPlan).later ((Below.refl _ _).alloc (Nat.le_refl _) _)
  have P0 : Hid (Rw ((w.alloc (.cells #[.int .u64 id, .string name, .int .i64 every, .slice a L.length cap, .int .i64 ret] TPlan)).alloc (.cells #[.int .i64 0, .int .i64 0] TPrice)) (w.heap.size + 1) TPrice [.int .i64 0, .int .i64 0]) := by
    have := Rw.new (w.alloc (.cells #[.int .u64 id, .string name, .int .i64 every, .slice a L.length cap, .int .i64 ret] TPlan)) [.int .i64 0, .int .i64 0] TPrice
    rwa [World.size_alloc] at this
  have H0 := Lib.hid (h.later B0.out)
  obtain ⟨ab, ao, rfl, _, d0, d1⟩ := H0.out n1 (by omega)
  rw [← hye] at d0 d1
  have zb : (n1 : Int) ≤ 1000000 := by omega
  have z0 : (0 : Int) ≤ (n1 : Int) := by omega
  have z1 : (n1 : Int) < (L.length : Int) := by omega
  have zz : (L.length : Int) - 1 = (n1 : Int) := by omega
  unfold Pn.val Pr.val
  simp only
  clear hy hye h h0 hl hn1
  obtain ⟨fr, am⟩ := y
  simp only at d0 d1 ⊢
  go_enter Try.func31, Try.ntmps31
  go_upto_region 1 with (fail)
  generalize (w.alloc (.cells #[.int .u64 id, .string name, .int .i64 every, .slice (some ⟨ab, ao, none⟩) L.length cap, .int .i64 ret] TPlan)).alloc (.cells #[.int .i64 0, .int .i64 0] TPrice) = W0 at B0 R0 P0 H0 d0 d1 ⊢
  have c3 : W0.cell? ⟨w.heap.size, 3, none⟩ = some (.slice (some ⟨ab, ao, none⟩) L.length cap) := R0.out.cell 3
  obtain ⟨bp, hbp⟩ : ∃ bp, bp = w.heap.size + 1 := ⟨_, rfl⟩
  rw [← hbp] at P0 ⊢
  have HINF : Hid ((Try.prog.info? TPrice).map (·.size) = some 2) := by show _ = _; kernel_rfl
  have R2 : Hid (Rw (W0.setCells bp 0 #[.int .i64 fr, .int .i64 am].toList) bp TPrice [.int .i64 fr, .int .i64 am]) := by
    have := P0.out.setCells (cs := [.int .i64 fr, .int .i64 am]) 0 (by simp)
    exact this
  have HB2 : Hid (Below w.heap.size w (W0.setCells bp 0 #[.int .i64 fr, .int .i64 am].toList)) := Keeps.belowT B0.out ((Keeps.refl (fun j => j = bp) _).setCells bp 0 _ (.inl rfl)) (fun j hj => by cases hj; rw [hbp]; exact Nat.le_succ _) B0.out.size
  clear hbp
  go_wp2_with (with_reducible refine wpList_store_mid rfl TPrice _ _ rfl bp 0 #[.int .i64 fr, .int .i64 am] rfl rfl ?thr ?inf ?one ?_)
  case thr => exact P0.out.there 0 2 (by simp)
  case inf => simpa using HINF.out
  case one => simp [Value.oneCell']
  generalize W0.setCells bp 0 #[.int .i64 fr, .int .i64 am].toList = W2 at R2 HB2 ⊢
  go_wp2_with fail
  have r0 : W2.cell? ⟨bp, 0, none⟩ = some (.int .i64 fr) := R2.out.cell 0
  have r1 : W2.cell? ⟨bp, 1, none⟩ = some (.int .i64 am) := R2.out.cell 1
  refine bodyPost_ret (v := .agg #[.int .i64 fr, .int .i64 am]) (by simp [results, Try.results31, go_sem, r0, r1]) rfl ?_
  exact ⟨rfl, HB2.out⟩
/-- A plan's box. -/
structure Pb (w : World) (b : Nat) (x : Pn) (a : Option Addr) (cap : Nat) : Prop where
  r : Rw w b TPlan (x.cells a cap)
  p : Prs w a x.ps
theorem Pb.later {w w' : World} {b : Nat} {x : Pn} {a : Option Addr} {cap : Nat} (h : Pb w b x a cap) (k : Below w.heap.size w w') : Pb w' b x a cap := ⟨h.r.later k, h.p.later k⟩
def c1B (x : Pn) : Bool := decide (0 < x.id)
def c2B (x : Pn) : Bool := (!x.name.toList.isEmpty) && decide (x.name.size ≤ 60)
def c3B (x : Pn) : Bool := decide (1 ≤ x.every) && decide (x.every ≤ 120)
def c4B (x : Pn) : Bool := decide (1 ≤ x.ps.length) && decide (x.ps.length ≤ 100)
section
variable {w : World} {b : Nat} {x : Pn} {a : Option Addr} {cap : Nat}
set_option maxRecDepth 100000 in
theorem chk1 (h : Pb w b x a cap) : Calls Try.prog 35 #[.pointer (some ⟨b, 0, none⟩)] w fun e w' => e = .returned (.bool (c1B x)) ∧ w = w' := by
  have c0 : w.cell? ⟨b, 0, none⟩ = some (.int .u64 x.id) := h.r.cell 0
  clear h
  unfold c1B
  go_enter Try.func35, Try.ntmps35
  go_wp2_with fail
  go_ret
  exact ⟨rfl, rfl⟩
set_option maxRecDepth 100000 in
theorem chk5 (h : Pb w b x a cap) (hl : x.ps.length ≤ 1000000) : Calls Try.prog 39 #[.pointer (some ⟨b, 0, none⟩)] w fun e w' => e = .returned (.bool (ascB x.ps)) ∧ Below w.heap.size w w' := by
  have c3 : w.cell? ⟨b, 3, none⟩ = some (.slice a x.ps.length cap) := h.r.cell 3
  have KA := Lib.hid (asc_c x.ps a cap w h.p hl)
  clear h hl
  go_enter Try.func39, Try.ntmps39
  go_wp2_with fail
  refine KA.out.mono ?_
  rintro e w1 ⟨rfl, hb⟩
  go_wp2_with fail
  go_ret
  exact ⟨rfl, hb⟩
set_option maxRecDepth 100000 in
theorem chk3 (h : Pb w b x a cap) : Calls Try.prog 37 #[.pointer (some ⟨b, 0, none⟩)] w fun e w' => e = .returned (.bool (c3B x)) ∧ w = w' := by
  have c2 : w.cell? ⟨b, 2, none⟩ = some (.int .i64 x.every) := h.r.cell 2
  clear h
  obtain ⟨r, hr⟩ : ∃ r, r = c3B x := ⟨_, rfl⟩
  rw [← hr]
  unfold c3B at hr
  by_cases h1 : 1 ≤ x.every
  · by_cases h2 : x.every ≤ 120
    · obtain rfl : r = true := by rw [hr]; simp [h1, h2]
      clear hr
      go_enter Try.func37, Try.ntmps37
      go_wp2_with fail
      go_ret
      exact ⟨rfl, rfl⟩
    · obtain rfl : r = false := by rw [hr]; simp [h2]
      clear hr
      go_enter Try.func37, Try.ntmps37
      go_wp2_with fail
      go_ret
      exact ⟨rfl, rfl⟩
  · obtain rfl : r = false := by rw [hr]; simp [h1]
    clear hr
    go_enter Try.func37, Try.ntmps37
    go_wp2_with fail
    go_ret
    exact ⟨rfl, rfl⟩
end
end Go.Proofs.Ytakpoabpgdmneaa.Pl
