/- Package invoices: the end of a call that answers an invoice; a whole invoice stored. (gen_inpost.py writes this.) -/
import Derived.Test.YtaidijbjpogpeaaDoorInSet
import Derived.Test.YtaidijbjpogpeaaDoorCmRow
namespace Go.Proofs.YtaidijbjpogpeaaDoor.Inv
open Go.RowKit
theorem fold_put (u : World) (g : Nat) (a0 a1 a2 a3 a4 a5 a6 a7 a8 a9 a10 : Int) : (((((((((((u.setCell ⟨g, 0, none⟩ (.int .u64 a0)).setCell ⟨g, 1, none⟩ (.int .u64 a1)).setCell ⟨g, 2, none⟩ (.int .u64 a2)).setCell ⟨g, 3, none⟩ (.int .i64 a3)).setCell ⟨g, 4, none⟩ (.int .i64 a4)).setCell ⟨g, 5, none⟩ (.int .i64 a5)).setCell ⟨g, 6, none⟩ (.int .i64 a6)).setCell ⟨g, 7, none⟩ (.int .i64 a7)).setCell ⟨g, 8, none⟩ (.int .i64 a8)).setCell ⟨g, 9, none⟩ (.int .i64 a9)).setCell ⟨g, 10, none⟩ (.int .i64 a10)) = putIv u g ⟨a0, a1, a2, a3, a4, a5, a6, a7, a8, a9, a10⟩ := rfl
theorem post_put {g b : Nat} {x0 y : Iv} {u w : World} {Q : Exit → Act → World → Prop} {e : Exit} {a : Act} (T : Bx g x0 u) (B : Below b w u) (hg : b ≤ g) (K : ∀ W, Bx g y W → Below b w W → Q e a W) : Q e a (putIv u g y) :=
  K _ (T.put y) (Bx.put_below y B hg)
theorem calls_put {P : Program} {f : FuncId} {args : Array Value} {post : Ending → World → Prop} {g b : Nat} {x0 y : Iv} {u w : World} (Ro : World → Prop) (T : Bx g x0 u) (B : Below b w u) (hg : b ≤ g) (hR : Ro (putIv u g y)) (K : ∀ W, Bx g y W → Below b w W → Ro W → Calls P f args W post) : Calls P f args (putIv u g y) post :=
  K _ (T.put y) (Bx.put_below y B hg) hR
theorem put_row {u : World} {g h : Nat} {y : Iv} {xs : List Value} (r : Cm.RowAt u h xs) (hn : g ≠ h) : Cm.RowAt (putIv u g y) h xs := by
  unfold putIv
  exact (((((((((((r.other ⟨g, 0, none⟩ _ hn).other ⟨g, 1, none⟩ _ hn).other ⟨g, 2, none⟩ _ hn).other ⟨g, 3, none⟩ _ hn).other ⟨g, 4, none⟩ _ hn).other ⟨g, 5, none⟩ _ hn).other ⟨g, 6, none⟩ _ hn).other ⟨g, 7, none⟩ _ hn).other ⟨g, 8, none⟩ _ hn).other ⟨g, 9, none⟩ _ hn).other ⟨g, 10, none⟩ _ hn)
end Go.Proofs.YtaidijbjpogpeaaDoor.Inv
