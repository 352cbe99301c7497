/- The contracts of the reference of dim: Right, Mul, Inverse, Div. The contracts of the reference of dim: Mul, Div. -/
import Derived.Deep.RegionWith
import Derived.Test.YtmhdhabgdlefjaaDoorM22
set_option maxRecDepth 100000
namespace Go.Proofs.YtmhdhabgdlefjaaDoor.Dm
open Go.RowKit

def invF (f : Nat → Int) : Nat → Int := fun i => -f i

end Go.Proofs.YtmhdhabgdlefjaaDoor.Dm

namespace Go.Proofs.YtmhdhabgdlefjaaDoor.Dm
open Go.RowKit

theorem z6_at (w : World) : At (w.alloc (.cells #[.int .i64 0, .int .i64 0, .int .i64 0, .int .i64 0, .int .i64 0, .int .i64 0] 23)) w.heap.size zf := At.fresh w zf
end Go.Proofs.YtmhdhabgdlefjaaDoor.Dm
