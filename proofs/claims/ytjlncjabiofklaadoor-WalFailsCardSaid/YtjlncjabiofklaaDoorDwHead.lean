/- Package drive: the document's example. -/
import Derived.Test.YtjlncjabiofklaaDoorDwCopy
namespace Go.Proofs.YtjlncjabiofklaaDoor.Dv
open Go Go.RowKit Rf
theorem sync_c (g bv bd : Nat) (pv fv : Value) (x : Dr) (w : World) (hA : At w g bv bd pv fv x) (hx : x.Ok) (hP : x.P.length ≤ 100000) : Calls Tryd.prog 40 #[.pointer (some ⟨g, 0, Option.none⟩)] w fun e w' => e = .returned (.int .i64 x.sync.2) ∧ Left g bv bd pv fv x.sync.1 w w' := by
  unfold Dr.sync
  cases hF : burn x.F with
  | none => exact (sync_no g bv bd pv fv x w hA hx hF).mono fun e w' h => ⟨h.1, h.2 ▸ Left.same hA (Below.refl _ w)⟩
  | some F => exact (sync_yes g bv bd pv fv x F w hA hx hP hF).mono fun e w' h => h

end Go.Proofs.YtjlncjabiofklaaDoor.Dv
