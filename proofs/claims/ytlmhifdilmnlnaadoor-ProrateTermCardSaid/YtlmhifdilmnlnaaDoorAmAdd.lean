/- Package arith's Add, and Sum of two, three and four numbers. -/
import Derived.Test.YtlmhifdilmnlnaaDoorAmSum
namespace Go.Proofs.YtlmhifdilmnlnaaDoor
open Go.RowKit

end Go.Proofs.YtlmhifdilmnlnaaDoor
