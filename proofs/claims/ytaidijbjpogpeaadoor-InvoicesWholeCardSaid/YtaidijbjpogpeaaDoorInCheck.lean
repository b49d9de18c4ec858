/- The contract of package invoices' Check. (gen_incheck.py writes this.) -/
import Derived.Test.YtaidijbjpogpeaaDoorInHead
import Derived.Deep.RegionHeld3
namespace Go.Proofs.YtaidijbjpogpeaaDoor.Inv
open Go.RowKit
theorem then_below {a b c : World} (h : Below a.heap.size a b) (k : Below b.heap.size b c) : Below a.heap.size a c := h.trans (k.mono h.size)
theorem below_alloc {w w' : World} (h : Below w.heap.size w w') (o : Obj) : Below w.heap.size w (w'.alloc o) := h.alloc h.size o
structure IvAt (g : Nat) (x : Iv) (u : World) : Prop where
  c0 : u.cell? ⟨g, 0, none⟩ = some (.int .u64 x.id)
  c1 : u.cell? ⟨g, 1, none⟩ = some (.int .u64 x.cust)
  c2 : u.cell? ⟨g, 2, none⟩ = some (.int .u64 x.con)
  c3 : u.cell? ⟨g, 3, none⟩ = some (.int .i64 x.day)
  c4 : u.cell? ⟨g, 4, none⟩ = some (.int .i64 x.due)
  c5 : u.cell? ⟨g, 5, none⟩ = some (.int .i64 x.frm)
  c6 : u.cell? ⟨g, 6, none⟩ = some (.int .i64 x.next)
  c7 : u.cell? ⟨g, 7, none⟩ = some (.int .i64 x.amt)
  c8 : u.cell? ⟨g, 8, none⟩ = some (.int .i64 x.cred)
  c9 : u.cell? ⟨g, 9, none⟩ = some (.int .i64 x.paid)
  c10 : u.cell? ⟨g, 10, none⟩ = some (.int .i64 x.lost)
  lt : g < u.heap.size
theorem IvAt.later {g : Nat} {x : Iv} {w w' : World} (h : IvAt g x w) (hb : Below w.heap.size w w') : IvAt g x w' := by
  have := h.lt
  have := hb.size
  exact ⟨by rw [hb.cell (by simpa using h.lt)]; exact h.c0, by rw [hb.cell (by simpa using h.lt)]; exact h.c1, by rw [hb.cell (by simpa using h.lt)]; exact h.c2, by rw [hb.cell (by simpa using h.lt)]; exact h.c3, by rw [hb.cell (by simpa using h.lt)]; exact h.c4, by rw [hb.cell (by simpa using h.lt)]; exact h.c5, by rw [hb.cell (by simpa using h.lt)]; exact h.c6, by rw [hb.cell (by simpa using h.lt)]; exact h.c7, by rw [hb.cell (by simpa using h.lt)]; exact h.c8, by rw [hb.cell (by simpa using h.lt)]; exact h.c9, by rw [hb.cell (by simpa using h.lt)]; exact h.c10, by omega⟩
theorem IvAt.drew {g : Nat} {x : Iv} {w : World} (h : IvAt g x w) : IvAt g x w.drew := ⟨h.c0, h.c1, h.c2, h.c3, h.c4, h.c5, h.c6, h.c7, h.c8, h.c9, h.c10, h.lt⟩
theorem IvAt.alloc {g : Nat} {x : Iv} {w : World} (h : IvAt g x w) (o : Obj) : IvAt g x (w.alloc o) := h.later ((Below.refl _ w).alloc (Nat.le_refl _) o)
theorem IvAt.box (x : Iv) (w : World) : IvAt w.heap.size x (w.alloc (.cells x.cells 24)) := by
  constructor <;> simp [go_sem, Iv.cells]
theorem IvAt.pack {b g : Nat} {x : Iv} {w u : World} (h : IvAt g x u) (hb : Below b w u) :
    u.cell? ⟨g, 0, none⟩ = some (.int .u64 x.id) ∧ u.cell? ⟨g, 1, none⟩ = some (.int .u64 x.cust) ∧ u.cell? ⟨g, 2, none⟩ = some (.int .u64 x.con) ∧ u.cell? ⟨g, 3, none⟩ = some (.int .i64 x.day) ∧ u.cell? ⟨g, 4, none⟩ = some (.int .i64 x.due) ∧ u.cell? ⟨g, 5, none⟩ = some (.int .i64 x.frm) ∧ u.cell? ⟨g, 6, none⟩ = some (.int .i64 x.next) ∧ u.cell? ⟨g, 7, none⟩ = some (.int .i64 x.amt) ∧ u.cell? ⟨g, 8, none⟩ = some (.int .i64 x.cred) ∧ u.cell? ⟨g, 9, none⟩ = some (.int .i64 x.paid) ∧ u.cell? ⟨g, 10, none⟩ = some (.int .i64 x.lost) ∧ IvAt g x u ∧ Below b w u :=
  ⟨h.c0, h.c1, h.c2, h.c3, h.c4, h.c5, h.c6, h.c7, h.c8, h.c9, h.c10, h, hb⟩
theorem all_new (b0 b1 b2 b3 b4 b5 b6 b7 b8 b9 b10 b11 b12 b13 : Bool) (u : World) :
    Calls Tryd.prog 31 #[.slice (some ⟨u.heap.size, 0, none⟩) 14 14] (u.alloc (.cells #[.bool b0, .bool b1, .bool b2, .bool b3, .bool b4, .bool b5, .bool b6, .bool b7, .bool b8, .bool b9, .bool b10, .bool b11, .bool b12, .bool b13] 4)) fun e w' =>
      e = .returned (.bool ([b0, b1, b2, b3, b4, b5, b6, b7, b8, b9, b10, b11, b12, b13].all fun b => b)) ∧ Below u.heap.size u w' := by
  refine (all_c u.heap.size 0 14 [b0, b1, b2, b3, b4, b5, b6, b7, b8, b9, b10, b11, b12, b13] _ (by simp) (by simp) ?_).mono fun e w' ⟨a, b⟩ => ⟨a, then_below ((Below.refl _ u).alloc (Nat.le_refl _) _) b⟩
  intro j hh
  rw [World.cell?_alloc_at _ _ _ _ (by simp)]
  have h : j < 14 := by simpa using hh
  rcases j with _|_|_|_|_|_|_|_|_|_|_|_|_|_|j <;> first | omega | rfl | simp
set_option maxRecDepth 100000 in
set_option maxHeartbeats 1600000 in
theorem check_k (x : Iv) (w : World) (hx : x.Fits) (ok : Bool) (z : Int) (hok : x.okB = ok) (hz : z = if ok then 0 else 2) :
    Calls Tryd.prog 17 #[x.val] w fun e w' => e = .returned (.int .i64 z) ∧ Below w.heap.size w w' := by
  have HZ := Lib.hid hz
  have HK := Lib.hid hok
  clear hz hok
  have kl := Lib.hid (fun w => left_is x w hx)
  have I0 := Lib.hid (IvAt.box x w)
  have B0 := Lib.hid ((Below.refl _ w).alloc (Nat.le_refl _) (.cells x.cells 24))
  have HO := Lib.hid (show ∀ r, (0 ≤ x.cred → 0 ≤ x.paid → 0 ≤ x.lost → r = x.left) → ([decide (0 < x.id), decide (0 < x.cust), decide (1 ≤ x.day ∧ x.day ≤ 3652059), decide (1 ≤ x.due ∧ x.due ≤ 3652059), decide (x.day ≤ x.due), decide (1 ≤ x.frm ∧ x.frm ≤ 3652059),
    decide (x.frm < x.next), decide (x.next ≤ 3652060), decide (0 ≤ x.amt), decide (x.amt < 4611686018427387904), decide (0 ≤ x.cred), decide (0 ≤ x.paid), decide (0 ≤ x.lost), decide (0 ≤ r)].all fun b => b) = x.okB by
    intro r hr
    by_cases h : 0 ≤ x.cred ∧ 0 ≤ x.paid ∧ 0 ≤ x.lost
    · rw [hr h.1 h.2.1 h.2.2]; rfl
    · unfold Iv.okB
      have h : ¬ 0 ≤ x.cred ∨ ¬ 0 ≤ x.paid ∨ ¬ 0 ≤ x.lost := by omega
      simp only [List.all_cons, List.all_nil]
      rcases h with h | h | h <;> simp [h])
  clear hx
  go_enter Tryd.func17, Tryd.ntmps17
  unfold Iv.val
  go_wp2_with fail
  go_region_held3 (fun u => u.cell? ⟨w.heap.size, 0, none⟩ = some (.int .u64 x.id) ∧ u.cell? ⟨w.heap.size, 1, none⟩ = some (.int .u64 x.cust) ∧ u.cell? ⟨w.heap.size, 2, none⟩ = some (.int .u64 x.con) ∧ u.cell? ⟨w.heap.size, 3, none⟩ = some (.int .i64 x.day) ∧ u.cell? ⟨w.heap.size, 4, none⟩ = some (.int .i64 x.due) ∧ u.cell? ⟨w.heap.size, 5, none⟩ = some (.int .i64 x.frm) ∧ u.cell? ⟨w.heap.size, 6, none⟩ = some (.int .i64 x.next) ∧ u.cell? ⟨w.heap.size, 7, none⟩ = some (.int .i64 x.amt) ∧ u.cell? ⟨w.heap.size, 8, none⟩ = some (.int .i64 x.cred) ∧ u.cell? ⟨w.heap.size, 9, none⟩ = some (.int .i64 x.paid) ∧ u.cell? ⟨w.heap.size, 10, none⟩ = some (.int .i64 x.lost) ∧ IvAt w.heap.size x u ∧ Below w.heap.size w u)
    (first | exact IvAt.pack I0.out B0.out | exact IvAt.pack I0.out.drew B0.out.drew | exact IvAt.pack J1 D1 | exact IvAt.pack (IvAt.alloc (by assumption) _) (below_alloc (by assumption) _))
    (first | (go_at_call 32; (try go_split_ands); refine (isDay_c _ _).mono ?_; rintro e u1 ⟨rfl, rfl⟩) | (go_at_call 27; (try go_split_ands); refine (kl.out _).mono ?_; rintro e u1 ⟨⟨r, rfl, hr⟩, b1⟩; have HR := Lib.hid hr; clear hr; have J1 := IvAt.later (by assumption) b1; have D1 := then_below (by assumption) b1) | (go_at_call 31; (try go_split_ands); refine (all_new _ _ _ _ _ _ _ _ _ _ _ _ _ _ _).mono ?_; rintro e u2 ⟨rfl, b2⟩; have J1 := IvAt.later (by assumption) b2; have D1 := then_below (by assumption) b2))
  have hE : (decide (0 < x.id) && (decide (0 < x.cust) && (decide (1 ≤ x.day) && decide (x.day ≤ 3652059) && (decide (1 ≤ x.due) && decide (x.due ≤ 3652059) && (decide (x.day ≤ x.due) && (decide (1 ≤ x.frm) && decide (x.frm ≤ 3652059) && (decide (x.frm < x.next) && (decide (x.next ≤ 3652060) && (decide (0 ≤ x.amt) && (decide (x.amt < 4611686018427387904) && (decide (0 ≤ x.cred) && (decide (0 ≤ x.paid) && (decide (0 ≤ x.lost) && decide (0 ≤ r)))))))))))))) = x.okB := by
    rw [← HO.out _ HR.out]
    simp
  rw [hE, HK.out]
  clear hE HR HO HK
  cases ok <;> (have hz := HZ.out; clear HZ; simp at hz; go_wp2_with fail; go_ret; exact ⟨ret_int hz.symm, D1⟩)
theorem check_yes (x : Iv) (w : World) (hx : x.Fits) (h : x.okB = true) :
    Calls Tryd.prog 17 #[x.val] w fun e w' => e = .returned (.int .i64 0) ∧ Below w.heap.size w w' := check_k x w hx true 0 h rfl
theorem check_no (x : Iv) (w : World) (hx : x.Fits) (h : x.okB = false) :
    Calls Tryd.prog 17 #[x.val] w fun e w' => e = .returned (.int .i64 2) ∧ Below w.heap.size w w' := check_k x w hx false 2 h rfl
end Go.Proofs.YtaidijbjpogpeaaDoor.Inv
