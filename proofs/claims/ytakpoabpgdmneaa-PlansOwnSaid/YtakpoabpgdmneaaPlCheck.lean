/- Package plans: Check. -/
import Derived.Test.YtakpoabpgdmneaaPlAll
import Derived.Laws.EntriesVeiled
namespace Go.Proofs.Ytakpoabpgdmneaa.Pl
open Go Go.RowKit Ck
set_option maxRecDepth 100000 in
set_option maxHeartbeats 1600000 in
theorem check_c (x : Pn) (a : Option Addr) (cap : Nat) (w : World) (h : Prs w a x.ps) : Calls Try.prog 19 #[x.val a cap] w fun e w' => e = .returned (.int .i64 (if x.okB = true then 0 else 2)) ∧ Below w.heap.size w w' := by
  have H := Lib.hid h
  have B0 : Hid (Below w.heap.size w (w.alloc (.cells (x.cells a cap).toArray TPlan))) := (Below.refl _ w).alloc (Nat.le_refl _) _
  have R0 : Hid (Rw (w.alloc (.cells (x.cells a cap).toArray TPlan)) w.heap.size TPlan (x.cells a cap)) := Rw.new w (x.cells a cap) TPlan
  have PB0 : Hid (Pb (w.alloc (.cells (x.cells a cap).toArray TPlan)) w.heap.size x a cap) := ⟨R0.out, H.out.later B0.out⟩
  have KA : Hid (∀ u b g, Pb u b x a cap → Rw u g TFn [.func (.func 35) #[] #[.pointer (some ⟨b, 0, none⟩)], .func (.func 36) #[] #[.pointer (some ⟨b, 0, none⟩)], .func (.func 37) #[] #[.pointer (some ⟨b, 0, none⟩)], .func (.func 38) #[] #[.pointer (some ⟨b, 0, none⟩)], .func (.func 39) #[] #[.pointer (some ⟨b, 0, none⟩)], .func (.func 41) #[] #[.pointer (some ⟨b, 0, none⟩)]] → Calls Try.prog 34 #[.slice (some ⟨g, 0, none⟩) 6 6] u fun e w' => e = .returned (.bool x.okB) ∧ Below u.heap.size u w') := fun u b g h1 h2 => all_c h1 h2
  obtain ⟨r, hr⟩ : ∃ r, r = x.okB := ⟨_, rfl⟩
  obtain ⟨z, hz⟩ : ∃ z : Int, z = if x.okB = true then 0 else 2 := ⟨_, rfl⟩
  rw [← hz]
  rw [← hr] at KA hz
  clear h hr R0
  unfold Pn.cells at B0 PB0
  unfold Pn.val
  go_enter Try.func19, Try.ntmps19
  go_wp2_with fail
  have RG : Hid (Rw ((w.alloc (.cells #[.int .u64 x.id, .string x.name, .int .i64 x.every, .slice a x.ps.length cap, .int .i64 x.ret] TPlan)).alloc (.cells #[.func (.func 35) #[] #[.pointer (some ⟨w.heap.size, 0, none⟩)], .func (.func 36) #[] #[.pointer (some ⟨w.heap.size, 0, none⟩)], .func (.func 37) #[] #[.pointer (some ⟨w.heap.size, 0, none⟩)], .func (.func 38) #[] #[.pointer (some ⟨w.heap.size, 0, none⟩)], .func (.func 39) #[] #[.pointer (some ⟨w.heap.size, 0, none⟩)], .func (.func 41) #[] #[.pointer (some ⟨w.heap.size, 0, none⟩)]] TFn)) (w.heap.size + 1) TFn [.func (.func 35) #[] #[.pointer (some ⟨w.heap.size, 0, none⟩)], .func (.func 36) #[] #[.pointer (some ⟨w.heap.size, 0, none⟩)], .func (.func 37) #[] #[.pointer (some ⟨w.heap.size, 0, none⟩)], .func (.func 38) #[] #[.pointer (some ⟨w.heap.size, 0, none⟩)], .func (.func 39) #[] #[.pointer (some ⟨w.heap.size, 0, none⟩)], .func (.func 41) #[] #[.pointer (some ⟨w.heap.size, 0, none⟩)]]) := by
    have := Rw.new (w.alloc (.cells #[.int .u64 x.id, .string x.name, .int .i64 x.every, .slice a x.ps.length cap, .int .i64 x.ret] TPlan)) [.func (.func 35) #[] #[.pointer (some ⟨w.heap.size, 0, none⟩)], .func (.func 36) #[] #[.pointer (some ⟨w.heap.size, 0, none⟩)], .func (.func 37) #[] #[.pointer (some ⟨w.heap.size, 0, none⟩)], .func (.func 38) #[] #[.pointer (some ⟨w.heap.size, 0, none⟩)], .func (.func 39) #[] #[.pointer (some ⟨w.heap.size, 0, none⟩)], .func (.func 41) #[] #[.pointer (some ⟨w.heap.size, 0, none⟩)]] TFn
    rw [World.size_alloc] at this
    exact this
  have hb0 : Below (w.alloc (.cells #[.int .u64 x.id, .string x.name, .int .i64 x.every, .slice a x.ps.length cap, .int .i64 x.ret] TPlan)).heap.size (w.alloc (.cells #[.int .u64 x.id, .string x.name, .int .i64 x.every, .slice a x.ps.length cap, .int .i64 x.ret] TPlan)) ((w.alloc (.cells #[.int .u64 x.id, .string x.name, .int .i64 x.every, .slice a x.ps.length cap, .int .i64 x.ret] TPlan)).alloc (.cells #[.func (.func 35) #[] #[.pointer (some ⟨w.heap.size, 0, none⟩)], .func (.func 36) #[] #[.pointer (some ⟨w.heap.size, 0, none⟩)], .func (.func 37) #[] #[.pointer (some ⟨w.heap.size, 0, none⟩)], .func (.func 38) #[] #[.pointer (some ⟨w.heap.size, 0, none⟩)], .func (.func 39) #[] #[.pointer (some ⟨w.heap.size, 0, none⟩)], .func (.func 41) #[] #[.pointer (some ⟨w.heap.size, 0, none⟩)]] TFn)) := (Below.refl _ _).alloc (Nat.le_refl _) _
  have PB1 := Lib.hid (PB0.out.later hb0)
  have B1 : Hid (Below w.heap.size w ((w.alloc (.cells #[.int .u64 x.id, .string x.name, .int .i64 x.every, .slice a x.ps.length cap, .int .i64 x.ret] TPlan)).alloc (.cells #[.func (.func 35) #[] #[.pointer (some ⟨w.heap.size, 0, none⟩)], .func (.func 36) #[] #[.pointer (some ⟨w.heap.size, 0, none⟩)], .func (.func 37) #[] #[.pointer (some ⟨w.heap.size, 0, none⟩)], .func (.func 38) #[] #[.pointer (some ⟨w.heap.size, 0, none⟩)], .func (.func 39) #[] #[.pointer (some ⟨w.heap.size, 0, none⟩)], .func (.func 41) #[] #[.pointer (some ⟨w.heap.size, 0, none⟩)]] TFn))) := B0.out.trans (hb0.mono B0.out.size)
  clear hb0
  refine (KA.out _ _ _ PB1.out RG.out).mono ?_
  rintro e w2 ⟨rfl, hb⟩
  have B2 : Hid (Below w.heap.size w w2) := B1.out.trans (hb.mono B1.out.size)
  clear hb KA
  cases r with
  | false =>
    rw [if_neg (by decide)] at hz
    subst hz
    go_wp2_with fail
    go_ret
    exact ⟨rfl, B2.out⟩
  | true =>
    rw [if_pos rfl] at hz
    subst hz
    go_wp2_with fail
    go_ret
    exact ⟨rfl, B2.out⟩
end Go.Proofs.Ytakpoabpgdmneaa.Pl
