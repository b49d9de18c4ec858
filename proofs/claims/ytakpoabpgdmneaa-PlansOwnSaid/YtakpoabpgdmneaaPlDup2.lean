/- Package plans: duplicate. -/
import Derived.Test.YtakpoabpgdmneaaPlAt
namespace Go.Proofs.Ytakpoabpgdmneaa.Pl
open Go Go.RowKit Ck
def DupRes (x : Pn) (w : World) (e : Ending) (w' : World) : Prop := ∃ a' cap', e = .returned (x.val a' cap') ∧ w'.ownsRow w.heap.size TPrice 2 (.slice a' x.ps.length cap') x.ps.length (flatP x.ps) ∧ Below w.heap.size w w'
set_option maxRecDepth 100000 in
set_option maxHeartbeats 1600000 in
theorem dup_c (x : Pn) (a : Option Addr) (cap : Nat) (w : World) (h : Prs w a x.ps) (hn : a = none → cap = 0) (hsp : ∀ p, a = some p → p.spot = none) (hl : x.ps.length ≤ 1000000) : Calls Try.prog 27 #[x.val a cap] w (DupRes x w) := by
  obtain ⟨i0, z0, hi0, hz0, hz1, hz2, hz3⟩ := info_pr
  obtain ⟨id, name, every, L, ret⟩ := x
  simp only at h hl
  have hA : Hid (∀ u, Below w.heap.size w u → (a = none ∧ L.length = 0 ∧ cap = 0 ∧ flatP L = []) ∨ ∃ ad, a = some ad ∧ (flatP L).length = L.length * 2 ∧ ∀ j y, (flatP L)[j]? = some y → u.cell? (ad.add j) = some y) := fun u hu => by
    cases a with
    | none =>
      have h0 : L.length = 0 := by
        rcases Nat.eq_zero_or_pos L.length with h0 | h0
        · exact h0
        · obtain ⟨_, _, e, _⟩ := h 0 h0; cases e
      have hL : L = [] := List.length_eq_zero_iff.1 h0
      exact .inl ⟨rfl, h0, hn rfl, by rw [hL]; rfl⟩
    | some ad =>
      obtain ⟨b, off, spot⟩ := ad
      obtain rfl : spot = none := hsp _ rfl
      exact .inr ⟨_, rfl, flatP_len L, (h.later hu).news⟩
  have B0 : Hid (Below w.heap.size w ((w.alloc (.cells #[.int .u64 id, .string name, .int .i64 every, .slice a L.length cap, .int .i64 ret] TPlan)).alloc (.cells #[.int .u64 0, .string ⟨#[]⟩, .int .i64 0, .slice none 0 0, .int .i64 0] TPlan))) := ((Below.refl _ w).alloc (Nat.le_refl _) _).alloc (by simp) _
  have R0 : Hid (Rw ((w.alloc (.cells #[.int .u64 id, .string name, .int .i64 every, .slice a L.length cap, .int .i64 ret] TPlan)).alloc (.cells #[.int .u64 0, .string ⟨#[]⟩, .int .i64 0, .slice none 0 0, .int .i64 0] TPlan)) w.heap.size TPlan [.int .u64 id, .string name, .int .i64 every, .slice a L.length cap, .int .i64 ret]) := (Rw.new w [.int .u64 id, .string name, .int .i64 every, .slice a L.length cap, .int .i64 ret] TPlan).later ((Below.refl _ _).alloc (Nat.le_refl _) _)
  have P0 : Hid (Rw ((w.alloc (.cells #[.int .u64 id, .string name, .int .i64 every, .slice a L.length cap, .int .i64 ret] TPlan)).alloc (.cells #[.int .u64 0, .string ⟨#[]⟩, .int .i64 0, .slice none 0 0, .int .i64 0] TPlan)) (w.heap.size + 1) TPlan [.int .u64 0, .string ⟨#[]⟩, .int .i64 0, .slice none 0 0, .int .i64 0]) := by
    have := Rw.new (w.alloc (.cells #[.int .u64 id, .string name, .int .i64 every, .slice a L.length cap, .int .i64 ret] TPlan)) [.int .u64 0, .string ⟨#[]⟩, .int .i64 0, .slice none 0 0, .int .i64 0] TPlan
    rwa [World.size_alloc] at this
  unfold DupRes Pn.val
  simp only
  clear h hn hsp
  go_enter Try.func27, Try.ntmps27
  go_upto_region 1 with (fail)
  generalize (w.alloc (.cells #[.int .u64 id, .string name, .int .i64 every, .slice a L.length cap, .int .i64 ret] TPlan)).alloc (.cells #[.int .u64 0, .string ⟨#[]⟩, .int .i64 0, .slice none 0 0, .int .i64 0] TPlan) = W0 at B0 R0 P0 ⊢
  have c3 : W0.cell? ⟨w.heap.size, 3, none⟩ = some (.slice a L.length cap) := R0.out.cell 3
  have hs0 : w.heap.size ≤ W0.heap.size := B0.out.size
  go_wp2_with (at_builtin; refine wpList_append_any rfl _ _ TPrices rfl W0.heap.size TPrice i0 z0 2 16 Try.underlying29 hi0 hz0 hz1 hz2 hz3 (by decide) _ 0 [] rfl (World.ownsRow_nil _ _ _ _) a L.length cap (flatP L) rfl (hA.out _ B0.out) (flatP_one L) (by unfold maxLen; omega) (by omega) (Nat.le_refl _) ?_)
  intro v' w1 hown hg hat
  obtain ⟨a', cap', rfl⟩ := own_slice hown
  have hk : Below W0.heap.size W0 w1 := (Below.refl _ W0).grown hg (Nat.le_refl _) (fun j hj => by cases hj)
  have B1 : Hid (Below w.heap.size w w1) := B0.out.trans (hk.mono hs0)
  have R1 := Lib.hid (R0.out.later hk)
  have P1 := Lib.hid (P0.out.later hk)
  have HO := Lib.hid hown
  have HLT : Hid (w.heap.size + 1 < W0.heap.size) := P0.out.lt
  clear hk hown hg hat c3 B0 R0 P0
  have c3 : w1.cell? ⟨w.heap.size, 3, none⟩ = some (.slice a L.length cap) := R1.out.cell 3
  have f3 := R1.out.frozen 3
  go_upto_region 2 with (fail)
  have R2 : Hid (Rw (w1.setCell ⟨w.heap.size, 3, none⟩ (.slice a' L.length cap')) w.heap.size TPlan [.int .u64 id, .string name, .int .i64 every, .slice a' L.length cap', .int .i64 ret]) := R1.out.setCell 3 _
  have P2 : Hid (Rw (w1.setCell ⟨w.heap.size, 3, none⟩ (.slice a' L.length cap')) (w.heap.size + 1) TPlan [.int .u64 0, .string ⟨#[]⟩, .int .i64 0, .slice none 0 0, .int .i64 0]) := P1.out.otherCell _ 3 _ (by omega)
  have B2 : Hid (Below w.heap.size w (w1.setCell ⟨w.heap.size, 3, none⟩ (.slice a' L.length cap'))) := Keeps.belowT B1.out ((Keeps.refl (fun j => j = w.heap.size) _).setCell w.heap.size 3 _ (.inl rfl)) (fun j hj => Nat.le_of_eq hj.symm) B1.out.size
  have O2 : Hid ((w1.setCell ⟨w.heap.size, 3, none⟩ (.slice a' L.length cap')).ownsRow W0.heap.size TPrice 2 (.slice a' L.length cap') L.length (flatP L)) := own_keeps HO.out ((Keeps.refl (fun j => j = w.heap.size) _).setCell w.heap.size 3 _ (.inl rfl)) fun j hj e => by
    have h1 := (HO.out.lt j hj).1
    have h2 := HLT.out
    omega
  generalize w1.setCell ⟨w.heap.size, 3, none⟩ (.slice a' L.length cap') = W2 at R2 P2 B2 O2 ⊢
  obtain ⟨bp, hbp⟩ : ∃ bp, bp = w.heap.size + 1 := ⟨_, rfl⟩
  rw [← hbp] at P2 HLT ⊢
  clear c3 f3 R1 P1 B1 HO
  have q0 : W2.cell? ⟨w.heap.size, 0, none⟩ = some (.int .u64 id) := R2.out.cell 0
  have q1 : W2.cell? ⟨w.heap.size, 1, none⟩ = some (.string name) := R2.out.cell 1
  have q2 : W2.cell? ⟨w.heap.size, 2, none⟩ = some (.int .i64 every) := R2.out.cell 2
  have q3 : W2.cell? ⟨w.heap.size, 3, none⟩ = some (.slice a' L.length cap') := R2.out.cell 3
  have q4 : W2.cell? ⟨w.heap.size, 4, none⟩ = some (.int .i64 ret) := R2.out.cell 4
  have HINF : Hid ((Try.prog.info? TPlan).map (·.size) = some 5) := by show _ = _; kernel_rfl
  have R3 : Hid (Rw (W2.setCells bp 0 #[.int .u64 id, .string name, .int .i64 every, .slice a' L.length cap', .int .i64 ret].toList) bp TPlan [.int .u64 id, .string name, .int .i64 every, .slice a' L.length cap', .int .i64 ret]) := by
    have := P2.out.setCells (cs := [.int .u64 id, .string name, .int .i64 every, .slice a' L.length cap', .int .i64 ret]) 0 (by simp)
    exact this
  have B3 : Hid (Below w.heap.size w (W2.setCells bp 0 #[.int .u64 id, .string name, .int .i64 every, .slice a' L.length cap', .int .i64 ret].toList)) := Keeps.belowT B2.out ((Keeps.refl (fun j => j = bp) _).setCells bp 0 _ (.inl rfl)) (fun j hj => by cases hj; rw [hbp]; exact Nat.le_succ _) B2.out.size
  have O3 : Hid ((W2.setCells bp 0 #[.int .u64 id, .string name, .int .i64 every, .slice a' L.length cap', .int .i64 ret].toList).ownsRow W0.heap.size TPrice 2 (.slice a' L.length cap') L.length (flatP L)) := own_keeps O2.out ((Keeps.refl (fun j => j = bp) _).setCells bp 0 _ (.inl rfl)) fun j hj e => by
    have h1 := (O2.out.lt j hj).1
    have h2 := HLT.out
    omega
  clear hbp
  go_wp2_with (with_reducible refine wpList_store_mid rfl TPlan _ _ rfl bp 0 #[.int .u64 id, .string name, .int .i64 every, .slice a' L.length cap', .int .i64 ret] rfl rfl ?thr ?inf ?one ?_)
  case thr => exact P2.out.there 0 5 (by simp)
  case inf => simpa using HINF.out
  case one => simp [Value.oneCell']
  generalize W2.setCells bp 0 #[.int .u64 id, .string name, .int .i64 every, .slice a' L.length cap', .int .i64 ret].toList = W3 at R3 B3 O3 ⊢
  go_wp2_with fail
  have r0 : W3.cell? ⟨bp, 0, none⟩ = some (.int .u64 id) := R3.out.cell 0
  have r1 : W3.cell? ⟨bp, 1, none⟩ = some (.string name) := R3.out.cell 1
  have r2 : W3.cell? ⟨bp, 2, none⟩ = some (.int .i64 every) := R3.out.cell 2
  have r3 : W3.cell? ⟨bp, 3, none⟩ = some (.slice a' L.length cap') := R3.out.cell 3
  have r4 : W3.cell? ⟨bp, 4, none⟩ = some (.int .i64 ret) := R3.out.cell 4
  refine bodyPost_ret (v := .agg #[.int .u64 id, .string name, .int .i64 every, .slice a' L.length cap', .int .i64 ret]) (by simp [results, Try.results27, go_sem, r0, r1, r2, r3, r4]) rfl ?_
  exact ⟨a', cap', rfl, own_lower O3.out hs0, B3.out⟩

theorem own_pv {w : World} {base : Nat} {x : Pn} {a : Option Addr} {cap : Nat} (h : w.ownsRow base TPrice 2 (.slice a x.ps.length cap) x.ps.length (flatP x.ps)) : ∃ g, a = adr g ∧ (a = none → cap = 0) := by
  rcases h.2 with ⟨h1, _⟩ | ⟨g, cap', cur, h1, _⟩
  · injection h1 with h1 _ h3
    exact ⟨none, h1, fun _ => h3⟩
  · injection h1 with h1
    exact ⟨some g, h1, fun e => by rw [h1] at e; cases e⟩
/-- duplicate, of a plan that is kept or given. -/
def DupP (x : Pn) (w : World) (e : Ending) (w' : World) : Prop := ∃ p : Pv, p.x = x ∧ e = .returned p.val ∧ w'.ownsRow w.heap.size TPrice 2 p.sl p.x.ps.length (flatP p.x.ps) ∧ Below w.heap.size w w'
theorem dup_p (x : Pn) (a : Option Addr) (cap : Nat) (w : World) (h : Prs w a x.ps) (hn : a = none → cap = 0) (hsp : ∀ p, a = some p → p.spot = none) (hl : x.ps.length ≤ 1000000) : Calls Try.prog 27 #[x.val a cap] w (DupP x w) := by
  refine (dup_c x a cap w h hn hsp hl).mono ?_
  rintro e w' ⟨a', cap', rfl, h1, h2⟩
  obtain ⟨g, rfl, _⟩ := own_pv h1
  exact ⟨⟨x, g, cap'⟩, rfl, rfl, h1, h2⟩
theorem own_nil {w : World} {base : Nat} {p : Pv} (h : w.ownsRow base TPrice 2 p.sl p.x.ps.length (flatP p.x.ps)) : adr p.g = none → p.cap = 0 := by
  obtain ⟨_, _, h2⟩ := own_pv (a := adr p.g) h
  exact h2
theorem adr_spot {g : Option Nat} : ∀ p, adr g = some p → p.spot = none := by
  intro p h
  cases g with
  | none => cases h
  | some g => cases h; rfl
end Go.Proofs.Ytakpoabpgdmneaa.Pl
